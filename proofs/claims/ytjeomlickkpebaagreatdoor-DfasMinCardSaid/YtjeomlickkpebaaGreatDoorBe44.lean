/-
  Texts of this proof, one behind the other; each begins with its own remark.
-/
import Derived.Test.YtjeomlickkpebaaGreatDoorBe41
import Derived.Test.YtjeomlickkpebaaGreatDoorBe43
namespace Go.Proofs.YtjeomlickkpebaaGreatDoor
open Go.RowKit
set_option maxHeartbeats 4000000 in
theorem pmin_any {w:World} {v:Value} {d:Dfa} (h:DfW w v d):Calls Tryz.prog 15 #[v] w fun e w'=>∃p M,e= .returned (.pointer p)∧DfW w' (.pointer p) M∧IsMin (d.says 0) M∧Below w.heap.size w w':=by
 have HS:=jr h.1;have HP:=Lib.hid (KW h);have hp:=h.ok.pos;have HW:=Lib.hid h;obtain⟨n,hn⟩:∃n,d.n=n:=⟨_,rfl⟩;have HN:=Lib.hid hn;rw[hn] at HS hp;have HS:=Lib.hid HS;have n0:((n:Int)==0)=false:=beq_eq_false_iff_ne.2 (by omega);clear h hp hn;go_enter Tryz.func15,Tryz.ntmps15;go_wp2_with fail
 go_fit HS.out;rintro e w1 ⟨rfl,rfl⟩;go_wp2_with fail
 go_fit HP.out;rintro e w2 ⟨O,ob,rfl,h1,h2,h3,hb⟩;have HM:=Lib.hid (YZ (HW.out.below hb) h1 h2 h3);have HB:=Lib.hid hb;clear h1 h2 h3 hb HP;go_wp2_with fail
 go_fit HM.out;rintro e w3 ⟨D,M,rfl,h1,h2,hb⟩;have HF:=Lib.hid (And.intro h1 (And.intro h2 (HB.out.trans (hb.mono HB.out.size))));clear h1 h2 hb HM HB;go_wp2_with fail
 go_ret
 exact⟨_,M,rfl,HF.out.1,HF.out.2.1,HF.out.2.2⟩
def zFN (w:World):Prop:=XG w∧zC2 w
theorem zFN.below {w w':World} (h:zFN w) (hb:Below w.heap.size w w'):zFN w':=⟨h.1.below hb,h.2.below hb⟩
section
variable {w w':World} {v:Value} {d:Dfa}
theorem kI (h:DfW w v d):Calls Tryz.prog 16 #[v] w fun e w'=>e= .returned (.int .i64 (d.n:Int))∧Below w.heap.size w w':=(jr h.1).mono fun e w' h=>⟨h.1,by rw[h.2];exact Below.refl _ _⟩
theorem XI (h:DfW w v d) (k:Int) (b:Nat) (hb:b<256):Calls Tryz.prog 17 #[v,.int .i64 k,.int .u8 (b:Int)] w fun e w'=>e= .returned (.int .i64 (d.to k b))∧Below w.heap.size w w':=(XT h.1 k b hb).mono fun e w' h=>⟨h.1,by rw[h.2];exact Below.refl _ _⟩
theorem JS (h:DfW w v d) (k:Int):Calls Tryz.prog 18 #[v,.int .i64 k] w fun e w'=>e= .returned (.int .i64 (d.acc k))∧Below w.heap.size w w':=(J9 h.1 k).mono fun e w' h=>⟨h.1,by rw[h.2];exact Below.refl _ _⟩
theorem JT (h:DfW w v d):Calls Tryz.prog 15 #[v] w fun e w'=>∃p M,e= .returned (.pointer p)∧DfW w' (.pointer p) M∧IsMin (d.says 0) M∧Below w.heap.size w w':=pmin_any h
theorem KG {L:List ByteArray} (h:kD w v (quE L) (fiE L)) (hE:xG L=0) (hp:zC2 w):Calls Tryz.prog 26 #[v] w fun e w'=>JX L w' e∧Below w.heap.size w w':=zBK h hE hp
end
end Go.Proofs.YtjeomlickkpebaaGreatDoor
