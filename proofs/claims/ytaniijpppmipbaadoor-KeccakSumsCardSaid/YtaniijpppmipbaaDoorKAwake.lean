/-
  What awake answers in this program: true. Condition: the table of turns lies in its variable.
-/
import Derived.Test.YtaniijpppmipbaaDoorKText
import Derived.Test.YtaniijpppmipbaaDoorKHash
namespace Go.Proofs.YtaniijpppmipbaaDoor
open Go.RowKit Go.Shelf
set_option linter.unusedVariables false
namespace Kk

theorem sum_none : hex (sumOf []) = [97, 55, 102, 102, 99, 54, 102, 56, 98, 102, 49, 101, 100, 55, 54, 54, 53, 49, 99, 49, 52, 55, 53, 54, 97, 48, 54, 49, 100, 54, 54, 50, 102, 53, 56, 48, 102, 102, 52, 100, 101, 52, 51, 98, 52, 57, 102, 97, 56, 50, 100, 56, 48, 97, 52, 98, 56, 48, 102, 56, 52, 51, 52, 97] := by
  have e : lastSt [] = [0x66d71ebff8c6ffa7#64, 0x62d661a05647c151#64, 0xfa493be44dff80f5#64, 0x4a43f8804b0ad882#64, 0xe2f36b34b7be6652#64, 0xff875921cacc9566#64, 0x80d97b5776b3ba89#64, 0x28debd55fc6a313b#64, 0x3ac3d19f1e48ecc#64, 0x78193aecc1e434e9#64, 0xc287a923afe81e79#64, 0x21684ae301601f33#64, 0x282e7e469e09e75f#64, 0xd17d1ed2c282b6b8#64, 0xf050e0d2adaf434e#64, 0x5375f6fb6aa989b0#64, 0xc2c6b96032faf11e#64, 0x63684dd3f055a1b2#64, 0xd908398b988ec2b2#64, 0x913f10903e0bd326#64, 0x33fc34664d479817#64, 0x2b715c1a078fde58#64, 0x140b7c9251369779#64, 0x857343a7aabdeb5e#64, 0x92136e0efb7b70e5#64] := by
    show absorbed zero (pad []) = _
    rw [absorbed, show xored zero (pad []) 17 = [0x6#64, 0x0#64, 0x0#64, 0x0#64, 0x0#64, 0x0#64, 0x0#64, 0x0#64, 0x0#64, 0x0#64, 0x0#64, 0x0#64, 0x0#64, 0x0#64, 0x0#64, 0x0#64, 0x8000000000000000#64, 0x0#64, 0x0#64, 0x0#64, 0x0#64, 0x0#64, 0x0#64, 0x0#64, 0x0#64] from by decide +kernel]
    exact pe
  rw [sumOf, e]
  decide +kernel
theorem sum_abc : hex (sumOf [97, 98, 99]) = [51, 97, 57, 56, 53, 100, 97, 55, 52, 102, 101, 50, 50, 53, 98, 50, 48, 52, 53, 99, 49, 55, 50, 100, 54, 98, 100, 51, 57, 48, 98, 100, 56, 53, 53, 102, 48, 56, 54, 101, 51, 101, 57, 100, 53, 50, 53, 98, 52, 54, 98, 102, 101, 50, 52, 53, 49, 49, 52, 51, 49, 53, 51, 50] := by
  have e : lastSt [97, 98, 99] = [0xb225e24fa75d983a#64, 0xbd90d36b2d175c04#64, 0x5b529d3e6e085f85#64, 0x3215431145e2bf46#64, 0xf81092fb22f636d1#64, 0x2097c8aad6603e27#64, 0x31f2c561623fb1f7#64, 0x8fdf74f3f204df9c#64, 0x9f5e838db186c4ac#64, 0xa80a1c04bc11baa2#64, 0xbf130581a54ef742#64, 0x3092fccecda9f8bf#64, 0x1a8b8b2a4af00862#64, 0x60c4cc90d90ca705#64, 0x1f24793254851e4e#64, 0x631239dca84621ef#64, 0x4b3f7866395fe1bd#64, 0x30bef91bffc67d8a#64, 0xd272513dd6dd06c9#64, 0x25a3af600aecb585#64, 0x5fc53e5cb938bec8#64, 0x2fc22dcacbc3cc1#64, 0x668094928c4b6cc3#64, 0xd5c25129ae161a7d#64, 0xb5d89c9e96e91041#64] := by
    show absorbed zero (pad [97, 98, 99]) = _
    rw [absorbed, show xored zero (pad [97, 98, 99]) 17 = [0x6636261#64, 0x0#64, 0x0#64, 0x0#64, 0x0#64, 0x0#64, 0x0#64, 0x0#64, 0x0#64, 0x0#64, 0x0#64, 0x0#64, 0x0#64, 0x0#64, 0x0#64, 0x0#64, 0x8000000000000000#64, 0x0#64, 0x0#64, 0x0#64, 0x0#64, 0x0#64, 0x0#64, 0x0#64, 0x0#64] from by decide +kernel]
    exact pa
  rw [sumOf, e]
  decide +kernel
theorem perm_zero : perm zero = [0xf1258f7940e1dde7#64, 0x84d5ccf933c0478a#64, 0xd598261ea65aa9ee#64, 0xbd1547306f80494d#64, 0x8b284e056253d057#64, 0xff97a42d7f8e6fd4#64, 0x90fee5a0a44647c4#64, 0x8c5bda0cd6192e76#64, 0xad30a6f71b19059c#64, 0x30935ab7d08ffc64#64, 0xeb5aa93f2317d635#64, 0xa9a6e6260d712103#64, 0x81a57c16dbcf555f#64, 0x43b831cd0347c826#64, 0x1f22f1a11a5569f#64, 0x5e5635a21d9ae61#64, 0x64befef28cc970f2#64, 0x613670957bc46611#64, 0xb87c5a554fd00ecb#64, 0x8c3ee88a1ccf32c8#64, 0x940c7922ae3a2614#64, 0x1841f924a2c509e4#64, 0x16f53526e70465c2#64, 0x75f644e97f30a13b#64, 0xeaf1ff7b5ceca249#64] := pz
end Kk
end Go.Proofs.YtaniijpppmipbaaDoor
