/-
  1 texts of a proof, joined.
-/
import Derived.Test.YtdoahlhkbhpgpaaDoorMg8
import Derived.Test.YtdoahlhkbhpgpaaDoorMg11

namespace Go.Proofs.YtdoahlhkbhpgpaaDoor.adC
open Go.ChangeShapes Go.WideShapes Go.ChangeAt Go.RowKit
open Go.Proofs.YtdoahlhkbhpgpaaDoor.memC Go.Proofs.YtdoahlhkbhpgpaaDoor.genC Go.Proofs.YtdoahlhkbhpgpaaDoor.butC Go.Proofs.YtdoahlhkbhpgpaaDoor.freeC Go.Proofs.YtdoahlhkbhpgpaaDoor.txC
set_option linter.unusedVariables false
set_option maxRecDepth 100000 in
set_option maxHeartbeats 2000000 in
theorem csix_any (A : Option Addr) (n c : Nat) (gs : List Int) (w : World) (hb : Nums .u16 w w.heap.size A n gs) (hy : ∀ x ∈ gs, W16 x) (hn : n ≤ 100000) (hc : n ≤ c) (hc2 : c ≤ 9223372036854775807) :
    Calls Tryd.prog 24 #[.slice A n c] w (Ret w (.agg (adrV true (sixB gs)))) := by
  have hzv := zeroAdr
  have UT0 := Lib.hid (adr_info true (zs_len 16))
  have ZT0 := Lib.hid (z_size true (zs_len 16))
  have OT0 := Lib.hid (adrV_one true (zs 16))
  have e1 : (w.alloc (.cells zAdr 24)).heap.size = w.heap.size + 1 := alloc_size _ _
  obtain ⟨W, hW⟩ : ∃ W, W = (w.alloc (.cells zAdr 24)).alloc (.cells (adrV true (zs 16)) 24) := ⟨_, rfl⟩
  have S0 := Lib.hid (show FSt w (w.heap.size + 1) true (sixT gs 0) W from ⟨by rw [hW]; exact ((Below.refl _ _).alloc (Nat.le_refl _) _).alloc (by simp) _, by rw [hW, Below.block (alloc_below _ _) _ (by rw [e1]; omega)]; exact heap_alloc_new w _, by rw [hW, ← e1]; exact heap_alloc_new _ _, by omega, zs_len 16⟩)
  have GL := Lib.hid hb.len
  obtain ⟨m, hm⟩ : ∃ m, m = min n 8 := ⟨_, rfl⟩
  have NB := Lib.hid hb
  have HM := Lib.hid (show m = min 8 gs.length by rw [hb.len, Nat.min_comm]; exact hm)
  have hmz : min (n : Int) 8 = (m : Int) := by omega
  have hm8 : m ≤ 8 := by omega
  have hmn : m ≤ n := by omega
  have hmc : (m : Int) ≤ (c : Int) := by omega
  have UY := Lib.hid hy
  have HT := Lib.hid (fun (b : List Int) (h : b.length = 16) => And.intro (adr_info true h) (And.intro (z_size true h) (adrV_one true b)))
  generalize hZ : zAdr = Z at *
  have HZ := Lib.hid hZ
  clear hZ hb hy hm
  go_enter Tryd.func24, Tryd.ntmps24
  have RZ := Lib.hid (show ((w.alloc (.cells Z 24)).alloc (.cells Z 24)).heap[w.heap.size + 1]? = some (.cells Z 24 (0, 0)) by rw [← e1]; exact heap_alloc_new _ _)
  go_upto_region 2 with (first
    | (refine wpList_buildTo rfl 24 _ rfl (some 6) rfl (adrV true (zs 16)) (by kernel_rfl) ?_)
    | (refine wpList_store_row rfl 24 (.tmp 3) (.tmp 6) rfl (w.heap.size + 1) (adrV true (zs 16)) rfl rfl _ _ RZ.out UT0.out ZT0.out OT0.out ?_))
  rw [← e1, World.setRow_alloc_new, ← hW, e1]
  obtain ⟨g, hgd⟩ : ∃ g, g = w.heap.size + 1 := ⟨_, rfl⟩
  have HGL := Lib.hid (show w.heap.size < g by omega)
  rw [← hgd] at S0 ⊢
  clear hW e1 hzv RZ hgd
  go_wp2_with fail
  go_loopw [13] (fun v wr => ∃ i : Nat, i ≤ m ∧ v = .int .i64 i ∧ FSt w g true (sixT gs i) wr) (fun v _ => m - (intOf v).toNat)
  case atStart => exact ⟨0, by omega, rfl, S0.out⟩
  case round =>
    obtain ⟨i, hi, rfl, KK⟩ := hrel
    have HK := Lib.hid KK
    clear KK
    by_cases hlt : i < m
    · obtain ⟨gb, go, rfl, hgb, hc0⟩ := NB.out.cell (i := i) (by omega)
      have hzm : (i : Int) < (m : Int) := by omega
      have hx : W16 (gs.getD i 0) := by
        rw [List.getD_eq_getElem?_getD, List.getElem?_eq_getElem (by rw [GL.out]; omega)]
        exact UY.out _ (List.getElem_mem _)
      have cx : wr.cell? ⟨gb, go + i, none⟩ = some (.int .u16 (gs.getD i 0)) := (HK.out.bel.cell (p := ⟨gb, go + i, none⟩) hgb).trans hc0
      have HST := Lib.hid (show sixT gs (i + 1) = ((sixT gs i).set (2 * i) (gs.getD i 0 / 256)).set (2 * i + 1) (gs.getD i 0 % 256) from rfl)
      clear hc0
      generalize gs.getD i 0 = x at *
      obtain ⟨x0, x1⟩ := hx
      obtain ⟨p, hp⟩ : ∃ p, p = 2 * i := ⟨_, rfl⟩
      obtain ⟨q, hq⟩ : ∃ q, q = 2 * i + 1 := ⟨_, rfl⟩
      obtain ⟨hi', hhi⟩ : ∃ h, h = x / 256 := ⟨_, rfl⟩
      obtain ⟨lo, hlo⟩ : ∃ l, l = x % 256 := ⟨_, rfl⟩
      rw [← hq, ← hp, ← hhi, ← hlo] at HST
      have p16 : p < 16 := by omega
      have q16 : q < 16 := by omega
      have F1 := HK.out.set p hi'
      have hc1 := HK.out.cell p16
      have hf1 := HK.out.frozen (1 + p)
      have hc2 := F1.cell q16
      have hf2 := F1.frozen (1 + q)
      have HF2 := Lib.hid (F1.set q lo)
      rw [← HST.out] at HF2
      have ep : (2 : Int) * (i : Int) = (p : Int) := by omega
      have eq : (p : Int) + 1 = (q : Int) := by omega
      have pz : (p : Int) < 16 := by omega
      have qz : (q : Int) < 16 := by omega
      have hh : x / 256 = hi' := hhi.symm
      have wh : IntKind.u8.wrap hi' = hi' := IntWalk.u8_in _ (by omega)
      have wl : IntKind.u8.wrap x = lo := by rw [hlo]; exact IntKind.wrap_u8 x
      clear hhi hlo hp hq F1
      go_upto_region 6 with fail
      clear hc1 hf1 hc2 hf2 ep eq hh wh wl
      generalize (wr.setCell ⟨g, 1 + p, none⟩ (.int .u8 hi')).setCell ⟨g, 1 + q, none⟩ (.int .u8 lo) = w4 at *
      go_wp2_with fail
      go_roundw
      case rel => exact ⟨i + 1, by omega, by go_num, HF2.out⟩
      case measure => simp [intOf]; omega
    · have e : i = m := by omega
      subst e
      have HR := Lib.hid (show wr.heap[g]? = some (.cells (adrV true (sixB gs)) 24 (0, 0)) by
        have h := HK.out.row
        unfold sixB
        rw [← HM.out]; exact h)
      have HR0 := Lib.hid (show wr.heap[w.heap.size]? = some (.cells Z 24 (0, 0)) by rw [← HZ.out]; exact HK.out.res)
      have HB := Lib.hid HK.out.bel
      have U := Lib.hid (HT.out (sixB gs) (sixB_len gs))
      generalize adrV true (sixB gs) = T at *
      go_wp2_with (first
        | (refine wpList_load_row rfl 24 (.tmp 3) rfl g rfl _ _ _ _ HR.out Tryd.underlying24 rfl U.out.1 ?_)
        | (refine wpList_store_row rfl 24 (.tmp 2) (.tmp 33) rfl w.heap.size _ rfl rfl _ _ HR0.out U.out.1 U.out.2.1 U.out.2.2 ?_))
      refine bodyPost_ret (v := .agg T) (results_cell_row Tryd.results24 _ _ w.heap.size _ _ _ _ (by rfl) (setRow_heap _ _ _ _ _ _ HR0.out) Tryd.underlying24 rfl U.out.1) rfl ⟨rfl, ?_⟩
      exact HB.out.trans ⟨rfl, rfl, rfl, by simp, fun z hz => setRow_other _ _ _ _ (by omega)⟩
end Go.Proofs.YtdoahlhkbhpgpaaDoor.adC
