/-
  1 texts of a proof, joined.
-/
import Derived.Test.YtjdenhkicikfkaaMg17
import Derived.Test.YtjdenhkicikfkaaMg18
import Derived.Test.YtjdenhkicikfkaaMg19
import Derived.Sort.MapsRangeIn

/-
  The library's iterator over the map's ways.
-/
namespace Go.Proofs.Ytjdenhkicikfkaa.rtC
open Go.ChangeShapes Go.WideShapes Go.ChangeAt Go.RowKit
open Go.Proofs.Ytjdenhkicikfkaa.memC Go.Proofs.Ytjdenhkicikfkaa.genC Go.Proofs.Ytjdenhkicikfkaa.butC Go.Proofs.Ytjdenhkicikfkaa.freeC Go.Proofs.Ytjdenhkicikfkaa.adC Go.Proofs.Ytjdenhkicikfkaa.rndC
set_option linter.unusedVariables false
attribute [local go_sem] Oper.semAt_some
abbrev WyJ := {y : Wy // y.Ok}
theorem values_any (b : Nat) (w : World) : Calls Try.prog 22 #[.map (some b)] w fun e w' => e = .returned (.func (.func 32) #[] #[.pointer (some ⟨w.heap.size, 0, none⟩)]) ∧ w' = w.alloc (.cells #[.map (some b)] 48) := by
  go_enter Try.func22, Try.ntmps22
  go_wp2
  go_ret
  exact ⟨rfl, rfl⟩
set_option maxRecDepth 100000 in
set_option maxHeartbeats 2000000 in
theorem values1_in (m l Bm b : Nat) (hm1 : 1 ≤ m) (L : List Wy) (hok : ∀ y ∈ L, y.Ok) (J Jx : List WyJ → World → Prop) (W : World) (hJ : AbidesFrom W.heap.size J)
    (hY : ∀ pre x W, J pre W → pre.length < L.length → YieldAt Fence.wide (m - 1) Try.prog l #[.agg (wyV x.1)] W fun e W' =>
      (e = .returned (.bool true) ∧ J (pre ++ [x]) W' ∧ KeepsWalks W W') ∨ (e = .returned (.bool false) ∧ Jx (pre ++ [x]) W'))
    (hb : W.heap[Bm]? = some (.cells #[.map (some b)] 48 (0, 0))) (hM : MapW W b L) (h0 : J [] W) :
    CallsIn Fence.wide m Try.prog 32 #[.func (.yield l) #[] #[], .pointer (some ⟨Bm, 0, none⟩)] W fun e W' => (∃ v, e = .returned v) ∧
      ((∃ xs : List WyJ, (xs.map (·.1)).Perm L ∧ J xs W') ∨ (∃ pre, True ∧ Jx pre W')) := by
  refine callsIn_of_wp Try.func32 rfl trivial ?_ rfl
  simp only [Try.ntmps32, List.size_toArray, List.length_cons, List.length_nil, Nat.reduceAdd, Nat.reduceSub, Array.replicate_succ, Array.replicate_zero, List.push_toArray, List.append_toArray, List.nil_append, List.cons_append]
  have HY := Lib.hid hY
  have HJ := Lib.hid hJ
  have HM := Lib.hid hM
  have H0 := Lib.hid h0
  have HOK := Lib.hid hok
  have HBM := Lib.hid (show b < W.heap.size from hM.lt)
  have c1 := cell_of_row W Bm 0 _ _ (0, 0) hb
  have hzv := zeroWy
  have ZI := Lib.hid (wyV_info zWy_ok)
  have ZO := Lib.hid (wy_ones)
  have WI := Lib.hid (fun (y : Wy) (h : y.Ok) => wyV_info h)
  have WL := Lib.hid (fun (y : Wy) (h : y.Ok) => wyL_info h)
  have ZS := Lib.hid (fun (y : Wy) (h : y.Ok) => wy_zsize zWy_ok h)
  clear hY hJ hM h0 hok hb
  refine wpIn_wide.2 ?_
  go_wp2_with (refine wpList_rangeW rfl (.tmp 5) rfl rfl HM.out ?_; intro w0 hrg hg hs)
  go_frame
  have R0 := Lib.hid hrg
  have J0 := Lib.hid (show J [] w0 from HJ.out [] W w0 none H0.out hg (fun r e => by cases e))
  clear hrg hg hs c1
  go_loopw [4] (fun _ wr => ∃ pre : List WyJ, RngW wr b W.heap.size L (pre.map (·.1)) ∧ J pre wr) (fun _ wr => wr.rangeLeft b W.heap.size)
  case atStart => exact ⟨[], R0.out, J0.out⟩
  case round =>
    obtain ⟨pre, hrg, hJs⟩ := hrel
    have HR := Lib.hid hrg
    have HJs := Lib.hid hJs
    clear hrg hJs
    go_wp2_with (refine wpList_nextW rfl (.tmp 6) rfl rfl HR.out (by have := HBM.out; omega) ?_ ?_)
    · intro hd
      have HD := Lib.hid hd
      clear hd
      go_wp2_with fail
      go_end0
      exact ⟨⟨_, rfl⟩, .inl ⟨pre, HD.out, HJs.out⟩⟩
    · intro y w2 hy hrg2 hg2 hs2 hen
      have HY1 := Lib.hid (HOK.out y hy)
      have HR2 := Lib.hid hrg2
      have J2 := Lib.hid (show J pre w2 from HJ.out pre wr w2 (some W.heap.size) HJs.out hg2 (fun r e => by cases e; exact ⟨Nat.le_refl _, HR.out.iter⟩))
      clear hy hrg2 hg2 hs2
      obtain ⟨x, hx⟩ : ∃ x : WyJ, x.1 = y := ⟨⟨y, HY1.out⟩, rfl⟩
      have HPL := Lib.hid (show pre.length < L.length by
        have h1 := HR2.out.left
        simp at h1
        omega)
      have QY := Lib.hid (fun W' (h : J pre W') => (show YieldAt Fence.wide (m - 1) Try.prog l #[.agg (wyV y)] W' fun e W'' => (e = .returned (.bool true) ∧ J (pre ++ [x]) W'' ∧ KeepsWalks W' W'') ∨ (e = .returned (.bool false) ∧ Jx (pre ++ [x]) W'') from by
        have := HY.out pre x W' h HPL.out
        rwa [hx] at this))
      have HW := Lib.hid (WI.out y HY1.out)
      have HL := Lib.hid (show (Try.prog.info? 35).map (·.size) = some (wyL y).length from WL.out y HY1.out)
      have HS := Lib.hid (ZS.out y HY1.out)
      have HO := Lib.hid (ZO.out y)
      have EV := Lib.hid (show (wyL y).toArray = wyV y from rfl)
      have HX := Lib.hid hx
      clear hx
      generalize wyV y = CY at *
      generalize wyV zWy = CZ at *
      generalize kyV (kyOf y) = CK at *
      go_upto_region 3 with (first
        | (refine wpList_store_row rfl 35 (.tmp 4) (.tmp 10) rfl w2.heap.size CY rfl rfl _ _ (heap_alloc_new _ _) HW.out HS.out HO.out ?_; rw [World.setRow_alloc_new]))
      clear hen hzv
      obtain ⟨W3, hW3⟩ : ∃ W3, W3 = w2.alloc (.cells CY 35) := ⟨_, rfl⟩
      obtain ⟨g3, hg3⟩ : ∃ g, g = w2.heap.size := ⟨_, rfl⟩
      have R3 := Lib.hid (show W3.heap[g3]? = some (.cells CY 35 (0, 0)) by rw [hW3, hg3]; exact heap_alloc_new _ _)
      have J3 := Lib.hid (show J pre W3 by rw [hW3]; exact HJ.out pre w2 _ none J2.out (World.grownBy_alloc w2 _ none) (fun r e => by cases e))
      have K3 := Lib.hid (show KeepsWalks w2 W3 by rw [hW3]; exact KeepsWalks.alloc _ _)
      rw [← hW3, ← hg3]
      clear hW3 hg3
      obtain ⟨fn, tmps, assign, body, hy, hR⟩ := QY.out W3 J3.out
      have CL := Lib.hid (show ∀ j v, (wyL y)[j]? = some v → W3.cell? ⟨g3, 0 + j, none⟩ = some v from fun j v hv => by
        rw [cell_of_row W3 g3 (0 + j) _ _ (0, 0) R3.out, Nat.zero_add, ← EV.out, List.getElem?_toArray]
        exact hv)
      refine (wpIn_wide (n := m)).1 ?_
      gi_wp2_with (first
        | (refine wpListIn_load_run rfl 35 (.tmp 4) rfl (loadp_runK rfl rfl (wyL y) _ CL.out Try.underlying35 rfl HL.out) ?_; rw [EV.out])
        | gi_in)
      refine hR.mono ?_
      clear hR hy
      rintro e W4 (⟨rfl, hJ4, hk4⟩ | ⟨rfl, hJx4⟩)
      · have R4 := Lib.hid (show RngW W4 b W.heap.size L ((pre ++ [x]).map (·.1)) by
          have := (HR2.out.of_walks K3.out).of_walks hk4
          rw [List.map_append, List.map_cons, List.map_nil, HX.out]
          exact this)
        have HJ4 := Lib.hid hJ4
        clear hJ4 hk4
        gi_wp2
        go_wp2_with fail
        go_roundw
        case rel => exact ⟨pre ++ [x], R4.out, HJ4.out⟩
        case measure =>
          have h1 := R4.out.left
          have h2 := HR.out.left
          simp at h1 h2
          omega
      · have HJ4 := Lib.hid hJx4
        clear hJx4
        gi_wp2
        go_wp2_with fail
        refine bodyPost_ret (results_none rfl _ _ _) rfl ?_
        exact ⟨⟨_, rfl⟩, .inr ⟨_, trivial, HJ4.out⟩⟩
/-- maps.Values gives an iterator over the map's ways -/
theorem values_stops (m Bm b : Nat) (hm1 : 1 ≤ m) (L : List Wy) (hok : ∀ y ∈ L, y.Ok) (w : World) (hb : w.heap[Bm]? = some (.cells #[.map (some b)] 48 (0, 0))) (hM : MapW w b L) :
    SeqStopsK Fence.wide m Try.prog 32 #[.pointer (some ⟨Bm, 0, none⟩)] (fun x : WyJ => #[.agg (wyV x.1)]) KeepsWalks (fun xs => (xs.map (·.1)).Perm L) (fun _ => True) L.length w := fun l J Jx W hW hJ hJx hY h0 =>
  values1_in m l Bm b hm1 L hok J Jx W hJ hY ((hW.block Bm (Array.getElem?_eq_some_iff.1 hb).1).trans hb) (hM.same (hW.block b hM.lt)) h0
end Go.Proofs.Ytjdenhkicikfkaa.rtC
