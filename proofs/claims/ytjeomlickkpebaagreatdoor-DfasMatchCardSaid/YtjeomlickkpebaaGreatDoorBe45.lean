/-
  Texts of this proof, one behind the other; each begins with its own remark.
-/
import Derived.Test.YtjeomlickkpebaaGreatDoorBe42
import Derived.Test.YtjeomlickkpebaaGreatDoorBe44
import Derived.Test.YtjeomlickkpebaaGreatDoorBe36
import Derived.Test.YtjeomlickkpebaaGreatDoorBe40
import Derived.Test.YtjeomlickkpebaaGreatDoorBe32
namespace Go.Proofs.YtjeomlickkpebaaGreatDoor
open Go.RowKit
set_option maxHeartbeats 4000000 in
theorem pmin_any {w:World} {v:Value} {d:Dfa} (h:DfW w v d):Calls Tryz.prog 15 #[v] w fun e w'=>∃p M,e= .returned (.pointer p)∧DfW w' (.pointer p) M∧IsMin (d.says 0) M∧Below w.heap.size w w':=by
 have HS:=pvstates_any h.1;have HP:=Lib.hid (parted_any h);have hp:=h.ok.pos;have HW:=Lib.hid h;obtain⟨n,hn⟩:∃n,d.n=n:=⟨_,rfl⟩;have HN:=Lib.hid hn;rw[hn] at HS hp;have HS:=Lib.hid HS;have n0:((n:Int)==0)=false:=beq_eq_false_iff_ne.2 (by omega);clear h hp hn;go_enter Tryz.func15,Tryz.ntmps15;go_wp2_with fail
 go_fit HS.out;rintro e w1 ⟨rfl,rfl⟩;go_wp2_with fail
 go_fit HP.out;rintro e w2 ⟨O,ob,rfl,h1,h2,h3,hb⟩;have HM:=Lib.hid (pmerged_any (HW.out.below hb) h1 h2 h3);have HB:=Lib.hid hb;clear h1 h2 h3 hb HP;go_wp2_with fail
 go_fit HM.out;rintro e w3 ⟨D,M,rfl,h1,h2,hb⟩;have HF:=Lib.hid (And.intro h1 (And.intro h2 (HB.out.trans (hb.mono HB.out.size))));clear h1 h2 hb HM HB;go_wp2_with fail
 go_ret
 exact⟨_,M,rfl,HF.out.1,HF.out.2.1,HF.out.2.2⟩
end Go.Proofs.YtjeomlickkpebaaGreatDoor
namespace Go.Proofs.YtjeomlickkpebaaGreatDoor
open Go.RowKit
def EnvW (w:World):Prop:=ErrW w∧PowW w
theorem EnvW.below {w w':World} (h:EnvW w) (hb:Below w.heap.size w w'):EnvW w':=⟨h.1.below hb,h.2.below hb⟩
section
variable {w w':World} {v:Value} {d:Dfa}
theorem pdmatch_any (h:DfW w v d) (s:ByteArray) (hs:s.size≤1000) (a:Int):
  Calls Tryz.prog 20 #[v,.string s,.int .i64 a] w fun e w'=>e= .returned (.tuple #[.int .i64 (matchDA d s a).1,.int .i64 (matchDA d s a).2.1,.int .i64 (matchDA d s a).2.2])∧Below w.heap.size w w':=pvmatch_any h.1 s hs a
theorem pdstates_any (h:DfW w v d):Calls Tryz.prog 16 #[v] w fun e w'=>e= .returned (.int .i64 (d.n:Int))∧Below w.heap.size w w':=(pvstates_any h.1).mono fun e w' h=>⟨h.1,by rw[h.2];exact Below.refl _ _⟩
theorem pdmin_any (h:DfW w v d):Calls Tryz.prog 15 #[v] w fun e w'=>∃p M,e= .returned (.pointer p)∧DfW w' (.pointer p) M∧IsMin (d.says 0) M∧Below w.heap.size w w':=pmin_any h
theorem pdmake_any {L:List ByteArray} (h:NfaR w v (quE L) (fiE L)) (hE:makeE L=0) (hp:PowW w):Calls Tryz.prog 26 #[v] w fun e w'=>MkOut L w' e∧Below w.heap.size w w':=pmake_any h hE hp
end
end Go.Proofs.YtjeomlickkpebaaGreatDoor
