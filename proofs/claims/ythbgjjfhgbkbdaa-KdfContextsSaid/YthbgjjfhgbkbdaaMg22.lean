/-
  2 texts of a proof, joined.
-/
import Derived.Test.YthbgjjfhgbkbdaaMg12
import Derived.Test.YthbgjjfhgbkbdaaMg20
import Derived.Test.YthbgjjfhgbkbdaaMg21

/-
  Traffic keys over numbers; what both Sizes, long, fit and sixteen do.
-/
namespace Go.Proofs.Ythbgjjfhgbkbdaa.kdC
open Go.ChangeShapes Go.WideShapes Go.ChangeAt Go.RowKit
open Go.Proofs.Ythbgjjfhgbkbdaa.memC Go.Proofs.Ythbgjjfhgbkbdaa.genC Go.Proofs.Ythbgjjfhgbkbdaa.aesM Go.Proofs.Ythbgjjfhgbkbdaa.aesC Go.Proofs.Ythbgjjfhgbkbdaa.butC Go.Proofs.Ythbgjjfhgbkbdaa.freeC Go.Proofs.Ythbgjjfhgbkbdaa.partsC
set_option linter.unusedVariables false
/-- how many bytes a key has -/
def sizeN (a : Int) : Nat := if a = 1 then 20 else if a = 2 then 16 else 0
theorem size_any (a : Int) (w : World) : Calls Try.prog 13 #[.int .i64 a] w fun e w' => e = .returned (.int .i64 (sizeN a)) ∧ w = w' := by
  by_cases h1 : a = 1
  · subst h1
    go_enter Try.func13, Try.ntmps13
    go_wp2
    go_ret
    exact ⟨rfl, rfl⟩
  · by_cases h2 : a = 2
    · subst h2
      go_enter Try.func13, Try.ntmps13
      go_wp2
      go_ret
      exact ⟨rfl, rfl⟩
    · go_enter Try.func13, Try.ntmps13
      go_wp2
      go_ret
      exact ⟨by simp [sizeN, h1, h2], rfl⟩
theorem rsize_any (a : Int) (w : World) : Calls Try.prog 14 #[.int .i64 a] w fun e w' => e = .returned (.int .i64 (sizeN a)) ∧ w = w' := by
  by_cases h1 : a = 1
  · subst h1
    go_enter Try.func14, Try.ntmps14
    go_wp2
    go_ret
    exact ⟨rfl, rfl⟩
  · by_cases h2 : a = 2
    · subst h2
      go_enter Try.func14, Try.ntmps14
      go_wp2
      go_ret
      exact ⟨rfl, rfl⟩
    · go_enter Try.func14, Try.ntmps14
      go_wp2
      go_ret
      exact ⟨by simp [sizeN, h1, h2], rfl⟩
theorem long_any (A : Option Addr) (n c : Nat) (w : World) (hn : n ≤ 9223372036854775807) :
    Calls Try.prog 9 #[.slice A n c] w fun e w' => e = .returned (.bool (decide (300 < n))) ∧ w = w' := by
  go_enter Try.func9, Try.ntmps9
  go_wp2
  go_ret
  exact ⟨ret_bool (by rw [decide_eq_decide]; omega), rfl⟩
/-- a slice of bytes that came in -/
structure Key (w : World) (A : Option Addr) (n c : Nat) (k : List Int) : Prop where
  nums : Nums .u8 w w.heap.size A n k
  byte : ∀ x ∈ k, Byte x
  cap : n ≤ c
  max : c ≤ 9223372036854775807
section
variable {w w' : World} {A : Option Addr} {n c : Nat} {msg : List Int}
theorem Key.below (h : Key w A n c msg) (B : Below w.heap.size w w') : Key w' A n c msg := ⟨(h.nums.below B).more B.size, h.byte, h.cap, h.max⟩
theorem Key.partAt (h : Key w A n c msg) (hn : n ≤ 10000) : PartAt w w.heap.size ⟨A, n, c, msg⟩ := ⟨h.nums, hn, h.byte, h.cap, h.max⟩
theorem cat1 (p : Part) : catL [p] = p.bs := by simp [catL]
end
/-- a master key as one of AES -/
def fitL (m : List Int) : List Nat := if m.length = 16 then nats m else macL (zs 16) (nats m)
theorem fitL_len (m : List Int) : (fitL m).length = 16 := by unfold fitL; split <;> first | (rw [nats_len]; assumption) | exact macL_len _ _
theorem fitL_by {m : List Int} (h : ∀ x ∈ m, Byte x) : BY (fitL m) := by unfold fitL; split <;> first | exact nats_by h | exact macL_by (zs_by 16) (zs_len 16) _
/-- sixteen bytes as they lie -/
theorem vec_nats {m : List Int} (h : ∀ x ∈ m, Byte x) : (m.map (Value.int .u8)).toArray = vec (nats m) := by unfold vec; rw [nats_vec h]
theorem key_cells {w : World} {n c : Nat} {m : List Int} {b o : Nat} (h : Key w (some ⟨b, o, none⟩) n c m) (j : Nat) (v : Value) (hv : (m.map (Value.int .u8))[j]? = some v) : w.cell? ⟨b, o + j, none⟩ = some v := by
  have := h.nums.news rfl j v hv
  rwa [memC.add_plain] at this
theorem key_addr {w : World} {A : Option Addr} {n c : Nat} {m : List Int} (h : Key w A n c m) (h0 : 0 < n) : ∃ b o, A = some ⟨b, o, none⟩ := by
  obtain ⟨b, o, e, _⟩ := h.nums.at_ h0
  exact ⟨b, o, e⟩
set_option maxRecDepth 100000 in
set_option maxHeartbeats 1000000 in
theorem fit_sixteen (A : Option Addr) (c : Nat) (m : List Int) (w : World) (hm : Key w A 16 c m) :
    Calls Try.prog 23 #[.slice A 16 c] w (Ret w (.agg (vec (fitL m)))) := by
  obtain ⟨b, o, rfl⟩ := key_addr hm (by decide)
  have hl : m.length = 16 := hm.nums.len
  have hf : fitL m = nats m := by unfold fitL; rw [if_pos hl]
  rw [hf]
  obtain ⟨Z, hZ⟩ : ∃ Z, Z = vec (zs 16) := ⟨_, rfl⟩
  have hzv := zero16
  rw [← hZ] at hzv
  obtain ⟨V, hV⟩ : ∃ V, V = m.map (Value.int .u8) := ⟨_, rfl⟩
  have hVV : V.toArray = vec (nats m) := by rw [hV]; exact vec_nats hm.byte
  have UV := Lib.hid (show (Try.prog.info? 32).map (·.size) = some V.length by rw [b16_info, hV, List.length_map, hl])
  have UA := Lib.hid (show (Try.prog.info? 32).map (·.size) = some V.toArray.size by rw [b16_info, hV, List.size_toArray, List.length_map, hl])
  have ZV := Lib.hid (show Z.size = V.toArray.size by rw [hVV, hZ, vec_size, vec_size, nats_len, zs_len, hl])
  have OV := Lib.hid (show V.toArray.all (·.oneCell') = true by rw [hVV]; exact vec_one _)
  obtain ⟨W, hW⟩ : ∃ W, W = w.alloc (.cells Z 32) := ⟨_, rfl⟩
  have BW := alloc_below w (.cells Z 32)
  have RW : (w.alloc (.cells Z 32)).heap[w.heap.size]? = some (.cells Z 32 (0, 0)) := heap_alloc_new _ _
  rw [← hW] at BW RW
  have CL := Lib.hid (show ∀ j v, V[j]? = some v → W.cell? ⟨b, o + j, none⟩ = some v from fun j v hv => key_cells (hm.below BW) j v (by rw [← hV]; exact hv))
  have HVV := Lib.hid hVV
  have HBW := Lib.hid BW
  have HRW := Lib.hid RW
  clear hZ hV hVV BW RW hl hf hm
  have hat := run_arrayAt (P := Try.prog) (t := 32) Try.underlying32 (some ⟨b, o, none⟩) 16 c (by decide) W
  go_enter Try.func23, Try.ntmps23
  go_upto_region 1 with fail
  rw [← hW]
  clear hW hzv
  go_wp2_with (first
    | (refine Go.Proofs.Ythbgjjfhgbkbdaa.partC.wpList_load_part rfl 32 (.tmp 7) rfl b o rfl V _ CL.out Try.underlying32 rfl UV.out ?_)
    | (refine wpList_store_row rfl 32 (.tmp 2) (.tmp 8) rfl w.heap.size _ rfl rfl _ _ HRW.out UA.out ZV.out OV.out ?_))
  refine bodyPost_ret (v := .agg V.toArray) (results_cell_row Try.results23 _ _ w.heap.size _ _ _ _ (by rfl) (setRow_heap _ _ _ _ _ _ HRW.out) Try.underlying32 rfl UA.out) rfl ⟨by rw [HVV.out], ?_⟩
  exact below_setRow HBW.out (Nat.le_refl _) _
set_option maxRecDepth 100000 in
set_option maxHeartbeats 1000000 in
theorem fit_other (A : Option Addr) (n c : Nat) (m : List Int) (w : World) (hm : Key w A n c m) (hn : n ≤ 10000) (h16 : n ≠ 16) :
    Calls Try.prog 23 #[.slice A n c] w (Ret w (.agg (vec (fitL m)))) := by
  have hl : m.length = n := hm.nums.len
  have hf : fitL m = macL (zs 16) (nats m) := by unfold fitL; rw [if_neg (by omega)]
  rw [hf]
  obtain ⟨Z, hZ⟩ : ∃ Z, Z = vec (zs 16) := ⟨_, rfl⟩
  have hzv := zero16
  rw [← hZ] at hzv
  have hzb := zero16_built
  rw [← hZ] at hzb
  have HZB := Lib.hid hzb
  obtain ⟨V, hV⟩ : ∃ V, V = vec (macL (zs 16) (nats m)) := ⟨_, rfl⟩
  have UV := Lib.hid (show (Try.prog.info? 32).map (·.size) = some V.size by rw [hV]; exact vec_info (macL_len _ _))
  have ZV := Lib.hid (show Z.size = V.size by rw [hV, hZ, vec_size, vec_size, macL_len, zs_len])
  have OV := Lib.hid (show V.all (·.oneCell') = true by rw [hV]; exact vec_one _)
  have OF := Lib.hid (fun (w' : World) (B : Below w.heap.size w w') => (cof_any (some ⟨w'.heap.size, 0, none⟩) 1 1 [⟨A, n, c, m⟩] (zs 16) _ (parts1 ((hm.below B).partAt hn) 22) rfl (by decide) (zs_len 16) (zs_by 16)).mono fun e w'' h => (show e = .returned (.agg V) ∧ Below w.heap.size w w'' from ⟨by rw [h.1, cat1, hV], (B.alloc B.size (.cells #[.slice A n c] 22)).trans (h.2.mono (B.alloc B.size (.cells #[.slice A n c] 22)).size)⟩))
  rw [← hZ] at OF
  obtain ⟨W, hW⟩ : ∃ W, W = w.alloc (.cells Z 32) := ⟨_, rfl⟩
  have BW := alloc_below w (.cells Z 32)
  have RW : (w.alloc (.cells Z 32)).heap[w.heap.size]? = some (.cells Z 32 (0, 0)) := heap_alloc_new _ _
  rw [← hW] at BW RW
  have OG := Lib.hid ((cof_any (some ⟨W.heap.size, 0, none⟩) 1 1 [⟨A, n, c, m⟩] (zs 16) _ (parts1 ((hm.below BW).partAt hn) 22) rfl (by decide) (zs_len 16) (zs_by 16)).mono fun e w'' h => (show e = .returned (.agg V) ∧ Below W.heap.size W w'' from ⟨by rw [h.1, cat1, hV], (alloc_below W (.cells #[.slice A n c] 22)).trans (h.2.mono (alloc_below W (.cells #[.slice A n c] 22)).size)⟩))
  rw [← hZ] at OG
  have HBW := Lib.hid BW
  have HRW := Lib.hid RW
  rw [← hV]
  have hlt := Lib.hid (show w.heap.size < W.heap.size by rw [hW, alloc_size]; omega)
  have d1 : decide (n = 16) = false := by simpa using h16
  have d2 : ((n : Int) == 16) = false := by simp; omega
  clear hZ hV BW RW hl hf hm OF hzb
  go_enter Try.func23, Try.ntmps23
  go_upto_region 1 with fail
  rw [← hW]
  clear hW hzv
  go_wp2_with (first
    | (refine wpList_zero rfl 32 rfl _ HZB.out ?_)
    | (go_at_call 22; (with_reducible refine OG.out.mono ?_); rintro e w1 ⟨rfl, B1⟩
       have R1 := Lib.hid ((B1.block _ hlt.out).trans HRW.out))
    | (refine wpList_store_row rfl 32 (.tmp 2) (.tmp 12) rfl w.heap.size _ rfl rfl _ _ R1.out UV.out ZV.out OV.out ?_))
  refine bodyPost_ret (v := .agg V) (results_cell_row Try.results23 _ _ w.heap.size _ _ _ _ (by rfl) (setRow_heap _ _ _ _ _ _ R1.out) Try.underlying32 rfl UV.out) rfl ⟨rfl, ?_⟩
  exact below_setRow (HBW.out.trans (B1.mono HBW.out.size)) (Nat.le_refl _) _
theorem fit_any (A : Option Addr) (n c : Nat) (m : List Int) (w : World) (hm : Key w A n c m) (hn : n ≤ 10000) :
    Calls Try.prog 23 #[.slice A n c] w (Ret w (.agg (vec (fitL m)))) := by
  by_cases h : n = 16
  · subst h; exact fit_sixteen A c m w hm
  · exact fit_other A n c m w hm hn h
end Go.Proofs.Ythbgjjfhgbkbdaa.kdC

/-
  Traffic keys: what sixteen does.
-/
namespace Go.Proofs.Ythbgjjfhgbkbdaa.kdC
open Go.ChangeShapes Go.WideShapes Go.ChangeAt Go.RowKit
open Go.Proofs.Ythbgjjfhgbkbdaa.memC Go.Proofs.Ythbgjjfhgbkbdaa.genC Go.Proofs.Ythbgjjfhgbkbdaa.aesM Go.Proofs.Ythbgjjfhgbkbdaa.aesC Go.Proofs.Ythbgjjfhgbkbdaa.butC Go.Proofs.Ythbgjjfhgbkbdaa.freeC Go.Proofs.Ythbgjjfhgbkbdaa.partsC
set_option linter.unusedVariables false
/-- sixteen bytes of some, 0s behind them -/
def sixL (m : List Int) : List Nat := (nats m ++ zs 16).take 16
theorem sixL_len (m : List Int) : (sixL m).length = 16 := by unfold sixL; rw [List.length_take, List.length_append, zs_len]; omega
theorem sixL_by {m : List Int} (h : ∀ x ∈ m, Byte x) : BY (sixL m) := by
  intro x hx
  rcases List.mem_append.1 (List.mem_of_mem_take hx) with h1 | h1
  · exact nats_by h x h1
  · exact zs_by 16 x h1
theorem sixL_16 {m : List Int} (h : m.length = 16) : sixL m = nats m := by unfold sixL; rw [List.take_left' (by rw [nats_len, h])]
theorem sixL_at {m : List Int} {j : Nat} (h : j < 16) (hm : j < m.length) : (sixL m).getD j 0 = (nats m).getD j 0 := by
  unfold sixL
  rw [List.getD_eq_getElem?_getD, List.getElem?_take, if_pos h, List.getElem?_append_left (by rw [nats_len]; exact hm), ← List.getD_eq_getElem?_getD]
theorem sixL_end {m : List Int} {n : Nat} (h : m.length = n) (hn : n ≤ 16) : mixP (sixL m) (zs 16) n = sixL m := by
  unfold mixP sixL
  rw [List.take_take, Nat.min_eq_left hn, List.take_left' (by rw [nats_len, h]), List.take_append, List.take_of_length_le (by rw [nats_len]; omega), nats_len, h]
  unfold zs
  rw [List.drop_replicate, List.take_replicate, Nat.min_eq_left (by omega)]
structure SX (w : World) (d : List Nat) (j : Nat) (wr : World) : Prop where
  res : Bl 32 wr w.heap.size (zs 16)
  row : Bl 32 wr (w.heap.size + 1) (mixP d (zs 16) j)
  bel : Below w.heap.size w wr
theorem SX.step {w wr : World} {d : List Nat} {j : Nat} (h : SX w d j wr) (hd : d.length = 16) (hj : j < 16) : SX w d (j + 1) (wr.setCell ⟨w.heap.size + 1, j, none⟩ (.int .u8 ((d.getD j 0 : Nat) : Int))) := by
  refine ⟨h.res.other (by show w.heap.size + 1 ≠ _; omega) _, ?_, h.bel.setCell (p := ⟨w.heap.size + 1, j, none⟩) (by show w.heap.size ≤ w.heap.size + 1; omega) _⟩
  have := h.row.stored j (d.getD j 0)
  rwa [mixP_set (by rw [hd, zs_len]) (by rw [zs_len]; exact hj)] at this
set_option maxRecDepth 100000 in
set_option maxHeartbeats 1000000 in
theorem six_any (A : Option Addr) (n c : Nat) (m : List Int) (w : World) (hm : Key w A n c m) (hn : n ≤ 10000) :
    Calls Try.prog 26 #[.slice A n c] w (Ret w (.agg (vec (sixL m)))) := by
  have hl : m.length = n := hm.nums.len
  obtain ⟨Z, hZ⟩ : ∃ Z, Z = vec (zs 16) := ⟨_, rfl⟩
  have hzv := zero16
  rw [← hZ] at hzv
  obtain ⟨d, hd⟩ : ∃ d, d = sixL m := ⟨_, rfl⟩
  obtain ⟨V, hV⟩ : ∃ V, V = vec d := ⟨_, rfl⟩
  have hdl : d.length = 16 := by rw [hd]; exact sixL_len m
  have UV := Lib.hid (show (Try.prog.info? 32).map (·.size) = some V.size by rw [hV]; exact vec_info hdl)
  have ZV := Lib.hid (show Z.size = V.size by rw [hV, hZ, vec_size, vec_size, hdl, zs_len])
  have OV := Lib.hid (show V.all (·.oneCell') = true by rw [hV]; exact vec_one _)
  have K0 : SX w d 0 ((w.alloc (.cells Z 32)).alloc (.cells Z 32)) := by
    have e := alloc_size w (.cells Z 32)
    have n1 := Bl.new w 32 (zs 16)
    have n2 := Bl.new (w.alloc (.cells Z 32)) 32 (zs 16)
    rw [← hZ] at n1 n2
    rw [e] at n2
    exact ⟨n1.alloc _, by rw [mixP_zero]; exact n2, ((Below.refl _ _).alloc (Nat.le_refl _) _).alloc (by simp) _⟩
  have HK0 := Lib.hid K0
  have HDL := Lib.hid hdl
  have HD := Lib.hid hd
  have HV := Lib.hid hV
  have HL := Lib.hid hl
  have HM := Lib.hid hm
  have HZ := Lib.hid hZ
  rw [← hd, ← hV]
  clear K0 hdl hd hV hl hm hZ
  go_enter Try.func26, Try.ntmps26
  go_upto_region 2 with fail
  have es : (w.alloc (.cells Z 32)).heap.size = w.heap.size + 1 := alloc_size _ _
  try rw [es]
  generalize (w.alloc (.cells Z 32)).alloc (.cells Z 32) = w3 at *
  clear es hzv
  go_wp2_with fail
  go_loopw [4] (fun i wr => ∃ j : Nat, j ≤ 16 ∧ j ≤ n ∧ i = .int .i64 j ∧ SX w d j wr) (fun i _ => 16 - (intOf i).toNat)
  case atStart => exact ⟨0, by omega, by omega, rfl, HK0.out⟩
  case round =>
    obtain ⟨j, hj, hjn, rfl, KK⟩ := hrel
    have HK := Lib.hid KK
    by_cases h16 : j < 16
    · by_cases hlt : j < n
      · obtain ⟨b, o, rfl, hbb, hc0⟩ := HM.out.nums.cell hlt
        have cd := (KK.bel.cell (p := ⟨b, o + j, none⟩) hbb).trans hc0
        have ev : m.getD j 0 = ((d.getD j 0 : Nat) : Int) := by rw [HD.out, sixL_at h16 (by rw [HL.out]; exact hlt)]; exact nats_at HM.out.byte j
        rw [ev] at cd
        have cw := KK.row.cell (j := j) (by rw [mixP_len (by rw [HDL.out, zs_len]), zs_len]; exact h16)
        have fw := KK.row.frozen j
        have hjz : (j : Int) < 16 := by omega
        have hjz2 : (j : Int) < (n : Int) := by omega
        have HS := Lib.hid (KK.step HDL.out h16)
        generalize d.getD j 0 = y at *
        generalize (mixP d (zs 16) j).getD j 0 = x at *
        clear KK hc0 ev
        go_wp2_with fail
        go_roundw
        case rel => exact ⟨j + 1, by omega, by omega, by go_num, HS.out⟩
        case measure => simp [intOf]; omega
      · have e : j = n := by omega
        subst e
        have r1 := KK.row
        rw [HD.out, sixL_end HL.out hj, ← HD.out] at r1
        have G1 := Lib.hid (HV.out ▸ r1.row : wr.heap[w.heap.size + 1]? = some (.cells V 32 (0, 0)))
        have G2 := Lib.hid KK.res.row
        rw [← HZ.out] at G2
        have BQ := Lib.hid KK.bel
        clear r1 KK
        go_wp2_with (first
          | (refine wpList_load_row rfl 32 (.tmp 3) rfl (w.heap.size + 1) rfl _ _ _ _ G1.out Try.underlying32 rfl UV.out ?_)
          | (refine wpList_store_row rfl 32 (.tmp 2) (.tmp 21) rfl w.heap.size _ rfl rfl _ _ G2.out UV.out ZV.out OV.out ?_))
        refine bodyPost_ret (v := .agg V) (results_cell_row Try.results26 _ _ w.heap.size _ _ _ _ (by rfl) (setRow_heap _ _ _ _ _ _ G2.out) Try.underlying32 rfl UV.out) rfl ⟨rfl, ?_⟩
        exact below_setRow BQ.out (Nat.le_refl _) _
    · have e : j = 16 := by omega
      subst e
      have r1 := KK.row
      rw [show mixP d (zs 16) 16 = d by have h := mixP_full (xs := d) (ys := zs 16) (by rw [HDL.out, zs_len]); rwa [zs_len] at h] at r1
      have G1 := Lib.hid (HV.out ▸ r1.row : wr.heap[w.heap.size + 1]? = some (.cells V 32 (0, 0)))
      have G2 := Lib.hid KK.res.row
      rw [← HZ.out] at G2
      have BQ := Lib.hid KK.bel
      clear r1 KK
      go_wp2_with (first
        | (refine wpList_load_row rfl 32 (.tmp 3) rfl (w.heap.size + 1) rfl _ _ _ _ G1.out Try.underlying32 rfl UV.out ?_)
        | (refine wpList_store_row rfl 32 (.tmp 2) (.tmp 21) rfl w.heap.size _ rfl rfl _ _ G2.out UV.out ZV.out OV.out ?_))
      refine bodyPost_ret (v := .agg V) (results_cell_row Try.results26 _ _ w.heap.size _ _ _ _ (by rfl) (setRow_heap _ _ _ _ _ _ G2.out) Try.underlying32 rfl UV.out) rfl ⟨rfl, ?_⟩
      exact below_setRow BQ.out (Nat.le_refl _) _
end Go.Proofs.Ythbgjjfhgbkbdaa.kdC
