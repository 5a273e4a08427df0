/-
  The code's hmac: Short.
-/
import Derived.Test.YtbpolandhjcggaaHmG
namespace Go.Proofs.Ytbpolandhjcggaa.hmC
open Go.ChangeShapes Go.WideShapes Go.ChangeAt Go.RowKit
open Go.Proofs.Ytbpolandhjcggaa.memC Go.Proofs.Ytbpolandhjcggaa.genC Go.Proofs.Ytbpolandhjcggaa.shaM Go.Proofs.Ytbpolandhjcggaa.shaC Go.Proofs.Ytbpolandhjcggaa.shaN Go.Proofs.Ytbpolandhjcggaa.butC Go.Proofs.Ytbpolandhjcggaa.hmM Go.Proofs.Ytbpolandhjcggaa.freeC Go.Proofs.Ytbpolandhjcggaa.partsC
set_option linter.unusedVariables false
/-- a slice as a pointer to an array -/
theorem run_arrayAt {P : Program} {t e : TypeId} {n : Nat} (ht : P.underlying t = some (.array n e)) (A : Option Addr) (l c : Nat) (h : n ≤ l) (w : World) : (Instr.arrayAt t (.slice A l c)).run P w = .ok (.pointer A) w := by
  unfold Instr.arrayAt
  rw [Sem.run_bind, run_underlying ht w]
  simp [Nat.not_lt.2 h]
set_option maxRecDepth 100000 in
set_option maxHeartbeats 1000000 in
theorem cshort_any (A : Option Addr) (n c : Nat) (k : List Int) (P : Option Addr) (m c2 : Nat) (ps : List Part) (w : World) (hb : Nums .u8 w w.heap.size A n k) (hy : ∀ x ∈ k, Byte x) (hn : n ≤ 10000) (hc : n ≤ c) (hc2 : c ≤ 9223372036854775807)
    (hp : Parts w w.heap.size P ps) (hl : ps.length = m) (hm : m ≤ 100) :
    Calls Try.prog 11 #[.slice A n c, .slice P m c2] w (ShortRet w k (catL ps)) := by
  obtain ⟨Z, hZ⟩ : ∃ Z, Z = ((nz 20).map (Value.int .u8)).toArray := ⟨_, rfl⟩
  have hzv := z20
  rw [← hZ] at hzv
  obtain ⟨Y, hY⟩ : ∃ Y, Y = ((nz 12).map (Value.int .u8)).toArray := ⟨_, rfl⟩
  have hyv := z12
  rw [← hY] at hyv
  obtain ⟨d, hd⟩ : ∃ d, d = macL k (catL ps) := ⟨_, rfl⟩
  have hdl : d.length = 20 := by rw [hd]; exact mac_len _ _
  obtain ⟨X, hX⟩ : ∃ X, X = (d.map (Value.int .u8)).toArray := ⟨_, rfl⟩
  obtain ⟨V, hV⟩ : ∃ V, V = (d.take 12).map (Value.int .u8) := ⟨_, rfl⟩
  have U0 := Lib.hid (show (Try.prog.info? 25).map (·.size) = some X.size by rw [digest_info, hX]; simp [hdl])
  have ZS := Lib.hid (show Z.size = X.size by rw [hZ, hX]; simp [nz, hdl])
  have HO := Lib.hid (show X.all (·.oneCell') = true by rw [hX]; exact nums_one _)
  have hvl : V.length = 12 := by rw [hV, List.length_map, List.length_take, hdl]; decide
  have UV := Lib.hid (show (Try.prog.info? 28).map (·.size) = some V.length by rw [b12_info, hvl])
  have YV := Lib.hid (show Y.size = V.toArray.size by rw [hY]; simp [nz, hvl])
  have OV := Lib.hid (show V.toArray.all (·.oneCell') = true by rw [hV]; exact nums_one _)
  have SW := alloc_size w (.cells Y 28)
  have BW := alloc_below w (.cells Y 28)
  have RW : (w.alloc (.cells Y 28)).heap[w.heap.size]? = some (.cells Y 28 (0, 0)) := heap_alloc_new _ _
  have MC := Lib.hid (fun (w' : World) (B : Below w.heap.size w w') => (cof_any A n c k P m c2 ps w' ((hb.below B).more B.size) hy hn hc hc2 (hp.below B B.size) hl hm).mono fun e w'' h => (show e = .returned (.agg X) ∧ Below w'.heap.size w' w'' from ⟨by rw [hX, hd]; exact h.1, h.2⟩))
  have HX := Lib.hid hX
  have HD := Lib.hid hd
  have HDL := Lib.hid hdl
  have HV := Lib.hid hV
  have HSW := Lib.hid SW
  have HBW := Lib.hid BW
  have HRW := Lib.hid RW
  clear hZ hX hY hd hdl hb hp hl hy hV hvl SW BW RW
  go_enter Try.func11, Try.ntmps11
  go_upto_region 1 with fail
  generalize w.alloc (.cells Y 28) = W at *
  go_upto_region 2 with (first
    | (go_at_call 9; (with_reducible refine (MC.out _ HBW.out).mono ?_); rintro e w1 ⟨rfl, B1⟩)
    | (refine wpList_store_row rfl 25 (.tmp 5) (.tmp 8) rfl w1.heap.size X rfl rfl _ _ (heap_alloc_new _ _) U0.out ZS.out HO.out ?_))
  rw [World.setRow_alloc_new]
  have S1 := alloc_size w1 (.cells X 25)
  have D1 : Arr .u8 25 (w1.alloc (.cells X 25)) w1.heap.size d := by rw [HX.out]; exact Arr.new w1 .u8 25 d
  have R1 : (w1.alloc (.cells X 25)).heap[w.heap.size]? = some (.cells Y 28 (0, 0)) := by
    have h1 := HSW.out
    have h2 := B1.size
    rw [(alloc_below w1 _).block _ (by omega), B1.block _ (by omega)]; exact HRW.out
  have b1 : Below w.heap.size w (w1.alloc (.cells X 25)) := (HBW.out.trans (B1.mono HBW.out.size)).alloc (HBW.out.trans (B1.mono HBW.out.size)).size _
  have CL := Lib.hid (show ∀ j v, V[j]? = some v → (w1.alloc (.cells X 25)).cell? ⟨w1.heap.size, 0 + j, none⟩ = some v by
    intro j v hv
    have hj : j < 12 := by
      rcases Nat.lt_or_ge j V.length with h1 | h1
      · rw [HV.out, List.length_map, List.length_take, HDL.out] at h1; omega
      · rw [List.getElem?_eq_none h1] at hv; cases hv
    rw [Nat.zero_add, D1.cell (by rw [HDL.out]; omega), ← hv, HV.out]
    simp [List.getD_eq_getElem?_getD, HDL.out, hj, show j < 20 by omega])
  generalize w1.alloc (.cells X 25) = w2 at *
  generalize w1.heap.size = g at *
  have HR1 := Lib.hid R1
  have HB1 := Lib.hid b1
  clear S1 D1 R1 b1 B1 hzv hyv
  have hat := run_arrayAt (P := Try.prog) (t := 28) Try.underlying28 (some ⟨g, 0, none⟩) 12 20 (by decide) w2
  go_wp2_with (first
    | (refine Go.Proofs.Ytbpolandhjcggaa.partC.wpList_load_part rfl 28 (.tmp 10) rfl g 0 rfl V _ CL.out Try.underlying28 rfl UV.out ?_)
    | (refine wpList_store_row rfl 28 (.tmp 4) (.tmp 11) rfl w.heap.size _ rfl rfl _ _ HR1.out UV.out YV.out OV.out ?_))
  refine bodyPost_ret (v := .agg V.toArray) (results_cell_row Try.results11 _ _ w.heap.size _ _ _ _ (by rfl) (setRow_heap _ _ _ _ _ _ HR1.out) Try.underlying28 rfl UV.out) rfl ⟨by rw [HV.out, HD.out]; rfl, ?_⟩
  exact HB1.out.trans ⟨rfl, rfl, rfl, by simp, fun z hz => setRow_other _ _ _ _ (by omega)⟩
end Go.Proofs.Ytbpolandhjcggaa.hmC
