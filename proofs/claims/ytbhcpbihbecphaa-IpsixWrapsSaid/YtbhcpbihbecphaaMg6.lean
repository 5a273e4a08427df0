/-
  1 texts of a proof, joined.
-/
import Derived.Test.YtbhcpbihbecphaaMg5
import Derived.Laws.CopyOwn

/-
  The program's addresses: four bytes, any bytes as an address, whether one may be.
-/
namespace Go.Proofs.Ytbhcpbihbecphaa.adC
open Go.ChangeShapes Go.WideShapes Go.ChangeAt Go.RowKit
open Go.Proofs.Ytbhcpbihbecphaa.memC Go.Proofs.Ytbhcpbihbecphaa.genC Go.Proofs.Ytbhcpbihbecphaa.butC Go.Proofs.Ytbhcpbihbecphaa.freeC Go.Proofs.Ytbhcpbihbecphaa.txC
open Go.Proofs.Ytbhcpbihbecphaa.partC (wpList_load_part run_load_part)
set_option linter.unusedVariables false
/-- an address of some bytes -/
def ofL (bs : List Int) : Option (Bool × List Int) := if bs.length = 4 then some (false, bs ++ zs 12) else if bs.length = 16 then some (true, bs) else none
/-- an address and OK; the zero one and an error -/
def ORet (c : Int) (w : World) (o : Option (Bool × List Int)) (e : Ending) (w' : World) : Prop :=
  (match o with | some (s, b) => e = .returned (.tuple #[.agg (adrV s b), .int .i64 0]) | none => e = .returned (.tuple #[.agg zAdr, .int .i64 c])) ∧ Below w.heap.size w w'
theorem splice_adr {s : Bool} {bs : List Int} {n : Nat} (h : bs.length = n) (hn : n ≤ 16) : (splice (adrV s (zs 16)).toList 1 (bs.map (Value.int .u8))).toArray = adrV s (bs ++ zs (16 - n)) := by
  subst h
  unfold splice adrV
  simp only [List.length_map]
  congr 1
  rw [Nat.add_comm 1, List.take_succ_cons, List.drop_succ_cons, List.take_zero]
  unfold zs
  rw [List.map_replicate, List.drop_replicate, List.map_append, List.map_replicate]
  rfl
set_option maxRecDepth 100000 in
set_option maxHeartbeats 1000000 in
theorem cof_four (A : Option Addr) (c : Nat) (bs : List Int) (w : World) (hb : Nums .u8 w w.heap.size A 4 bs) :
    Calls Try.prog 51 #[.slice A 4 c] w (ORet 1 w (ofL bs)) := by
  have hzv := zeroAdr
  have R0 := Lib.hid (show (w.alloc (.cells zAdr 24)).heap[w.heap.size]? = some (.cells zAdr 24 (0, 0)) from heap_alloc_new w _)
  have B0 := Lib.hid (alloc_below w (.cells zAdr 24))
  have e1 : (w.alloc (.cells zAdr 24)).heap.size = w.heap.size + 1 := alloc_size _ _
  obtain ⟨T, hT⟩ : ∃ T, T = bs ++ zs (16 - 4) := ⟨_, rfl⟩
  have HV : Hid (ofL bs = some (false, T)) := Lib.hid (by unfold ofL; rw [hb.len, hT]; simp [zs])
  have hTl : T.length = 16 := by rw [hT, List.length_append, hb.len, zs_len]
  have U := Lib.hid (adr_info false hTl)
  have Z := Lib.hid (z_size false hTl)
  have O := Lib.hid (adrV_one false T)
  have SP := Lib.hid (show (splice (adrV false (zs 16)).toList 1 (bs.map (Value.int .u8))).toArray = adrV false T by rw [hT]; exact splice_adr hb.len (by decide))
  have UI := Lib.hid (adr_info false (zs_len 16))
  have ZI := Lib.hid (z_size false (zs_len 16))
  have OI := Lib.hid (adrV_one false (zs 16))
  obtain ⟨W, hW⟩ : ∃ W, W = (w.alloc (.cells zAdr 24)).alloc (.cells (adrV false (zs 16)) 24) := ⟨_, rfl⟩
  have RN : Hid (((w.alloc (.cells zAdr 24)).alloc (.cells zAdr 24)).heap[w.heap.size + 1]? = some (.cells zAdr 24 (0, 0))) := Lib.hid (by rw [← e1]; exact heap_alloc_new _ _)
  have RW := Lib.hid (show W.heap[w.heap.size + 1]? = some (.cells (adrV false (zs 16)).toList.toArray 24 (0, 0)) by rw [hW, ← e1]; exact heap_alloc_new _ _)
  have RW0 := Lib.hid (show W.heap[w.heap.size]? = some (.cells zAdr 24 (0, 0)) by rw [hW, Below.block (alloc_below _ _) _ (by rw [e1]; omega)]; exact R0.out)
  have BW := Lib.hid (show Below w.heap.size w W by rw [hW]; exact (B0.out.alloc (by rw [e1]; omega) _))
  have BW1 := Lib.hid (show Below (w.heap.size + 1) W W from Below.refl _ _)
  have LI := Lib.hid (show (adrV false (zs 16)).toList.length = 17 by rw [Array.length_toList, adrV_size (zs_len 16)])
  have HBW := Lib.hid (hb.below BW.out)
  have LB := Lib.hid (show (bs.map (Value.int .u8)).length = 4 by rw [List.length_map, hb.len])
  have hb1 := byte_inf
  have HI1 := Lib.hid (show (Try.prog.info? 5).map (·.size) = some 1 by kernel_rfl)
  have hse : zAdr.setIfInBounds 0 (.bool false) = adrV false (zs 16) := by kernel_rfl
  rw [HV.out]
  clear hb hT hTl hb1
  go_enter Try.func51, Try.ntmps51
  go_upto_region 4 with (first
    | (refine wpList_store_row rfl 24 (.tmp 4) (.tmp 17) rfl (w.heap.size + 1) _ rfl rfl _ _ RN.out UI.out ZI.out OI.out ?_))
  rw [← e1, World.setRow_alloc_new, ← hW, e1]
  generalize adrV false (zs 16) = V0 at *
  clear hW e1 hzv hse
  go_wp2_with (first
    | ((refine wpList_copy_splice rfl (.tmp 19) (.tmp 20) 26 26 rfl 5 Try.underlying26 HI1.out _ _ 16 16 4 c rfl rfl (w.heap.size + 1) 1 V0.toList 24 RW.out (bs.map (Value.int .u8)) ?_ ?_ ?_ ?_ (w.heap.size + 1) _ (Below.refl _ _) (Nat.le_refl _) ?_)
       · rw [LB.out]; decide
       · exact fun hp => ⟨rfl, by obtain ⟨b, o, e, _⟩ := HBW.out.at_ (by decide); exact ⟨_, e, HBW.out.news e⟩⟩
       · rw [LI.out, LB.out]; decide
       · exact fun v hv => by obtain ⟨z, _, rfl⟩ := List.mem_map.1 hv; rfl
       intro w5 G5 B5
       have G1 := Lib.hid (show w5.heap[w.heap.size + 1]? = some (.cells (adrV false T) 24 (0, 0)) by rw [← SP.out]; exact G5)
       have G2 := Lib.hid ((B5.block w.heap.size (Nat.lt_succ_self _)).trans RW0.out)
       have BQ := Lib.hid (BW.out.trans (B5.mono (Nat.le_succ _)))
       clear G5 B5)
    | (refine wpList_load_row rfl 24 (.tmp 4) rfl (w.heap.size + 1) rfl _ _ _ _ G1.out Try.underlying24 rfl U.out ?_)
    | (refine wpList_store_row rfl 24 (.tmp 2) (.tmp 22) rfl w.heap.size _ rfl rfl _ _ G2.out U.out Z.out O.out ?_))
  refine bodyPost_ret (v := .tuple #[.agg (adrV false T), .int .i64 0]) (results_cell_tmp Try.results51 _ _ w.heap.size _ _ _ _ _ (by rfl) (setRow_heap _ _ _ _ _ _ G2.out) Try.underlying24 rfl U.out (by rfl)) rfl ?_
  exact ⟨rfl, BQ.out.trans ⟨rfl, rfl, rfl, by simp, fun z hz => setRow_other _ _ _ _ (by omega)⟩⟩
set_option maxRecDepth 100000 in
set_option maxHeartbeats 1000000 in
theorem cof_sixteen (A : Option Addr) (c : Nat) (bs : List Int) (w : World) (hb : Nums .u8 w w.heap.size A 16 bs) :
    Calls Try.prog 51 #[.slice A 16 c] w (ORet 1 w (ofL bs)) := by
  have hzv := zeroAdr
  have R0 := Lib.hid (show (w.alloc (.cells zAdr 24)).heap[w.heap.size]? = some (.cells zAdr 24 (0, 0)) from heap_alloc_new w _)
  have B0 := Lib.hid (alloc_below w (.cells zAdr 24))
  have e1 : (w.alloc (.cells zAdr 24)).heap.size = w.heap.size + 1 := alloc_size _ _
  obtain ⟨T, hT⟩ : ∃ T, T = bs ++ zs (16 - 16) := ⟨_, rfl⟩
  have HV : Hid (ofL bs = some (true, T)) := Lib.hid (by unfold ofL; rw [hb.len, hT]; simp [zs])
  have hTl : T.length = 16 := by rw [hT, List.length_append, hb.len, zs_len]
  have U := Lib.hid (adr_info true hTl)
  have Z := Lib.hid (z_size true hTl)
  have O := Lib.hid (adrV_one true T)
  have SP := Lib.hid (show (splice (adrV true (zs 16)).toList 1 (bs.map (Value.int .u8))).toArray = adrV true T by rw [hT]; exact splice_adr hb.len (by decide))
  have UI := Lib.hid (adr_info true (zs_len 16))
  have ZI := Lib.hid (z_size true (zs_len 16))
  have OI := Lib.hid (adrV_one true (zs 16))
  obtain ⟨W, hW⟩ : ∃ W, W = (w.alloc (.cells zAdr 24)).alloc (.cells (adrV true (zs 16)) 24) := ⟨_, rfl⟩
  have RN : Hid (((w.alloc (.cells zAdr 24)).alloc (.cells zAdr 24)).heap[w.heap.size + 1]? = some (.cells zAdr 24 (0, 0))) := Lib.hid (by rw [← e1]; exact heap_alloc_new _ _)
  have RW := Lib.hid (show W.heap[w.heap.size + 1]? = some (.cells (adrV true (zs 16)).toList.toArray 24 (0, 0)) by rw [hW, ← e1]; exact heap_alloc_new _ _)
  have RW0 := Lib.hid (show W.heap[w.heap.size]? = some (.cells zAdr 24 (0, 0)) by rw [hW, Below.block (alloc_below _ _) _ (by rw [e1]; omega)]; exact R0.out)
  have BW := Lib.hid (show Below w.heap.size w W by rw [hW]; exact (B0.out.alloc (by rw [e1]; omega) _))
  have BW1 := Lib.hid (show Below (w.heap.size + 1) W W from Below.refl _ _)
  have LI := Lib.hid (show (adrV true (zs 16)).toList.length = 17 by rw [Array.length_toList, adrV_size (zs_len 16)])
  have HBW := Lib.hid (hb.below BW.out)
  have LB := Lib.hid (show (bs.map (Value.int .u8)).length = 16 by rw [List.length_map, hb.len])
  have hb1 := byte_inf
  have HI1 := Lib.hid (show (Try.prog.info? 5).map (·.size) = some 1 by kernel_rfl)
  have hse : zAdr.setIfInBounds 0 (.bool true) = adrV true (zs 16) := by kernel_rfl
  rw [HV.out]
  clear hb hT hTl hb1
  go_enter Try.func51, Try.ntmps51
  go_upto_region 4 with (first
    | (refine wpList_store_row rfl 24 (.tmp 4) (.tmp 17) rfl (w.heap.size + 1) _ rfl rfl _ _ RN.out UI.out ZI.out OI.out ?_))
  rw [← e1, World.setRow_alloc_new, ← hW, e1]
  generalize adrV true (zs 16) = V0 at *
  clear hW e1 hzv hse
  go_wp2_with (first
    | ((refine wpList_copy_splice rfl (.tmp 19) (.tmp 20) 26 26 rfl 5 Try.underlying26 HI1.out _ _ 16 16 16 c rfl rfl (w.heap.size + 1) 1 V0.toList 24 RW.out (bs.map (Value.int .u8)) ?_ ?_ ?_ ?_ (w.heap.size + 1) _ (Below.refl _ _) (Nat.le_refl _) ?_)
       · rw [LB.out]; decide
       · exact fun hp => ⟨rfl, by obtain ⟨b, o, e, _⟩ := HBW.out.at_ (by decide); exact ⟨_, e, HBW.out.news e⟩⟩
       · rw [LI.out, LB.out]; decide
       · exact fun v hv => by obtain ⟨z, _, rfl⟩ := List.mem_map.1 hv; rfl
       intro w5 G5 B5
       have G1 := Lib.hid (show w5.heap[w.heap.size + 1]? = some (.cells (adrV true T) 24 (0, 0)) by rw [← SP.out]; exact G5)
       have G2 := Lib.hid ((B5.block w.heap.size (Nat.lt_succ_self _)).trans RW0.out)
       have BQ := Lib.hid (BW.out.trans (B5.mono (Nat.le_succ _)))
       clear G5 B5)
    | (refine wpList_load_row rfl 24 (.tmp 4) rfl (w.heap.size + 1) rfl _ _ _ _ G1.out Try.underlying24 rfl U.out ?_)
    | (refine wpList_store_row rfl 24 (.tmp 2) (.tmp 22) rfl w.heap.size _ rfl rfl _ _ G2.out U.out Z.out O.out ?_))
  refine bodyPost_ret (v := .tuple #[.agg (adrV true T), .int .i64 0]) (results_cell_tmp Try.results51 _ _ w.heap.size _ _ _ _ _ (by rfl) (setRow_heap _ _ _ _ _ _ G2.out) Try.underlying24 rfl U.out (by rfl)) rfl ?_
  exact ⟨rfl, BQ.out.trans ⟨rfl, rfl, rfl, by simp, fun z hz => setRow_other _ _ _ _ (by omega)⟩⟩
set_option maxRecDepth 100000 in
theorem cof_no (A : Option Addr) (n c : Nat) (bs : List Int) (w : World) (hl : bs.length = n) (h4 : n ≠ 4) (h16 : n ≠ 16) :
    Calls Try.prog 51 #[.slice A n c] w (ORet 1 w (ofL bs)) := by
  have hzv := zeroAdr
  have Z0 := Lib.hid z_info; have Z1 := Lib.hid z_one; have Z2 := Lib.hid built_zero
  have R0 := Lib.hid (show (w.alloc (.cells zAdr 24)).heap[w.heap.size]? = some (.cells zAdr 24 (0, 0)) from heap_alloc_new w _)
  have B0 := Lib.hid (alloc_below w (.cells zAdr 24))
  have HV : Hid (ofL bs = none) := Lib.hid (by unfold ofL; rw [if_neg (by omega), if_neg (by omega)])
  have q1 : ((n : Int) != 4) = true := by simp; omega
  have q2 : ((n : Int) == 4) = false := by simp; omega
  have q3 : ((n : Int) != 16) = true := by simp; omega
  have q4 : ((n : Int) == 16) = false := by simp; omega
  rw [HV.out]
  clear hl h4 h16
  generalize hZ : zAdr = Z at *
  have HZ := Lib.hid hZ
  clear hZ
  go_enter Try.func51, Try.ntmps51
  go_wp2_with (first
    | (refine wpList_zero rfl 24 rfl Z Z2.out ?_)
    | (refine wpList_store_row rfl 24 (.tmp 2) (.tmp 13) rfl w.heap.size Z rfl rfl _ _ R0.out Z0.out rfl Z1.out ?_))
  refine bodyPost_ret (v := .tuple #[.agg Z, .int .i64 1]) (results_cell_tmp Try.results51 _ _ w.heap.size _ _ _ _ _ (by rfl) (setRow_heap _ _ _ _ _ _ R0.out) Try.underlying24 rfl Z0.out (by rfl)) rfl ?_
  exact ⟨by rw [← HZ.out], B0.out.trans ⟨rfl, rfl, rfl, by simp, fun z hz => setRow_other _ _ _ _ (by omega)⟩⟩
theorem cof_any (A : Option Addr) (n c : Nat) (bs : List Int) (w : World) (hb : Nums .u8 w w.heap.size A n bs) : Calls Try.prog 51 #[.slice A n c] w (ORet 1 w (ofL bs)) := by
  by_cases h4 : n = 4
  · subst h4; exact cof_four A c bs w hb
  · by_cases h16 : n = 16
    · subst h16; exact cof_sixteen A c bs w hb
    · exact cof_no A n c bs w hb.len h4 h16
end Go.Proofs.Ytbhcpbihbecphaa.adC
