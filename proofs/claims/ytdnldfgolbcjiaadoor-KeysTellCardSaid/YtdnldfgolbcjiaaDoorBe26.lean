/-
  keys.feedPaste: what it returns, which bytes wait then: for every pasted bytes.
-/
import Derived.Lib.SlBytesConst
import Derived.Test.YtdnldfgolbcjiaaDoorBe20
import Derived.Test.YtdnldfgolbcjiaaDoorBe25
namespace Go.Proofs.YtdnldfgolbcjiaaDoor
open Go.RowKit

theorem end_bytes (w : World) : BytesW (w.alloc (.cells #[.int .u8 27, .int .u8 91, .int .u8 50, .int .u8 48, .int .u8 49, .int .u8 126] 5 (6, 7))) (.slice (some ⟨w.heap.size, 0, none⟩) 6 6) endP := by
  refine ⟨_, 6, rfl, Nat.le_refl _, fun _ _ => trivial, fun j u hu => ⟨_, 0, rfl, ?_⟩⟩
  rw [Nat.zero_add, World.cell?_alloc_mark]
  show (bytesC endP).toArray[j]? = some u
  rw [List.getElem?_toArray]
  exact hu
theorem conv_end (w : World) : (convert 28 28 (.slice (some ⟨w.heap.size, 0, none⟩) 6 6)).run Tryd.prog (w.alloc (.cells #[.int .u8 27, .int .u8 91, .int .u8 50, .int .u8 48, .int .u8 49, .int .u8 126] 5)) = .ok (.slice (some ⟨w.heap.size, 0, none⟩) 6 6) (w.alloc (.cells #[.int .u8 27, .int .u8 91, .int .u8 50, .int .u8 48, .int .u8 49, .int .u8 126] 5 (6, 7))) :=
  Lib.run_convert_bytes_const w 28 5 _ 6 6 Tryd.underlying28 Tryd.underlying5
set_option maxRecDepth 4000 in
set_option maxHeartbeats 4000000 in
theorem kpaste_any (N D : Nat) (w0 w : World) (x v v1 : Value) (s : ByteArray) (b : Nat) (hP : PrepW N D w0 x v s b v1 w) (hD : N ≤ D) (hs : s.size ≤ 50000) :
    Calls Tryd.prog 24 #[.pointer (some ⟨D, 0, none⟩), v1] w (FedK N D (okK D v) w0 (pasteK (s ++ oneS b))) := by
  have hsz : (s ++ oneS b).size = s.size + 1 := snoc_size s b
  have HP := Lib.hid hP
  have HPA := Lib.hid (hP.below (alloc_below w (.cells #[.int .u8 27, .int .u8 91, .int .u8 50, .int .u8 48, .int .u8 49, .int .u8 126] 5 (6, 7))))
  have HCT := Lib.hid (bcut_any v1 (.slice (some ⟨w.heap.size, 0, none⟩) 6 6) (s ++ oneS b) _ HPA.out.row.bytes (end_bytes w) (by omega))
  have HPB := Lib.hid (fun w2 w3 (hp : PrepW N D w0 x v s b v1 w2) (hb : Below w2.heap.size w2 w3) => hp.below hb)
  have HDN := Lib.hid (fun w2 k (hp : PrepW N D w0 x v s b v1 w2) => kdone_any N w2 D x k hp.box hp.n hD)
  have HCL := Lib.hid (fun w2 (h : TabK N w2) => clean_any ((s ++ oneS b).extract 0 ((s ++ oneS b).size - 6)) w2 (by rw [ByteArray.size_extract]; omega) h.t)
  have HD := Lib.hid hD
  clear hP hD
  by_cases h : endsP (s ++ oneS b)
  · have HR : Hid (pasteK (s ++ oneS b) = (.held noB, [(15, 0, cleanB ((s ++ oneS b).extract 0 ((s ++ oneS b).size - 6)))])) := by show pasteK _ = _; unfold pasteK; rw [if_pos h]
    rw [HR.out]
    rw [decide_eq_true h] at HCT
    have HE := Lib.hid h
    clear HR h
    obtain ⟨U, hU⟩ : ∃ U, (s ++ oneS b).extract 0 ((s ++ oneS b).size - 6) = U := ⟨_, rfl⟩
    rw [hU] at HCT HCL ⊢
    clear hU hsz
    have HDK := Lib.hid (fun w2 (hp : PrepW N D w0 x v s b v1 w2) => HDN.out w2 (15, 0, cleanB U) hp)
    have cb := conv_end w
    go_enter Tryd.func24, Tryd.ntmps24
    go_wp2_with fail
    go_fit HCT.out
    rintro e w1 ⟨⟨u, rfl, hu⟩, rfl⟩
    have cv := bytes_conv 28 Tryd.underlying28 (hu HE.out)
    clear hu
    go_wp2_with fail
    go_fit (HCL.out _ HPA.out.tab)
    rintro e w2 ⟨rfl, hb2⟩
    have HP2 := Lib.hid (HPB.out _ _ HPA.out hb2)
    clear hb2 cv
    go_wp2_with fail
    go_fit (HDK.out _ HP2.out)
    rintro e w' ⟨⟨u, rfl, hu, _⟩, ⟨v9, hd, hv⟩, hk⟩
    go_wp2_with fail
    go_ret
    exact HP2.out.fed (fed_done (Below.refl _ _) hu hd hv hk)
  · have HR : Hid (pasteK (s ++ oneS b) = (.paste (s ++ oneS b), [])) := by show pasteK _ = _; unfold pasteK; rw [if_neg h]
    rw [HR.out]
    rw [decide_eq_false h] at HCT
    clear HR h hsz
    obtain ⟨d0, f0⟩ := HP.out.box.cells
    have hl := HP.out.box.lt
    have cb := conv_end w
    go_enter Tryd.func24, Tryd.ntmps24
    go_wp2_with fail
    go_fit HCT.out
    rintro e w1 ⟨⟨u, rfl, _⟩, rfl⟩
    go_wp2_with fail
    go_ret
    exact HP.out.wait (.paste (s ++ oneS b)) ((HP.out.box.set _).below (alloc_below _ _)) rfl ((keep_set _ _ _ _ _ fun h => h rfl).trans (keep_below _ (alloc_below _ _))) HD.out
end Go.Proofs.YtdnldfgolbcjiaaDoor
