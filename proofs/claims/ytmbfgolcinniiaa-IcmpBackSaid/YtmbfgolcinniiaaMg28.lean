/-
  4 texts of a proof, joined.
-/
import Derived.Test.YtmbfgolcinniiaaMg27
import Derived.Test.YtmbfgolcinniiaaMg26

/-
  What the laws ask of the program's functions; far, theirs, ours, alive.
-/
namespace Go.Proofs.Ytmbfgolcinniiaa.icC
open Go.ChangeShapes Go.WideShapes Go.ChangeAt Go.RowKit
open Go.Proofs.Ytmbfgolcinniiaa.memC Go.Proofs.Ytmbfgolcinniiaa.genC Go.Proofs.Ytmbfgolcinniiaa.butC Go.Proofs.Ytmbfgolcinniiaa.freeC Go.Proofs.Ytmbfgolcinniiaa.adC
open Go.Proofs.Ytmbfgolcinniiaa.pkC (OwnE)
set_option linter.unusedVariables false
/-- what the program's functions do, in a world of which K holds -/
structure IcF (K : World → Prop) : Prop where
  keep : ∀ w w', K w → Below w.heap.size w w' → K w'
  may : ∀ (m : Ms) (A : Option Addr) (n c : Nat) (six : Bool) (xs : List Int) (w : World), K w → m.Ok → Nums .u8 w w.heap.size A n xs → (∀ x ∈ xs, Byte x) → n ≤ c → n ≤ 3000 → Calls Try.prog 13 #[.agg (msV m A n c), .bool six] w (Ret w (.bool (mayM m n six)))
  same : ∀ (p q : Ms) (A A' : Option Addr) (n c n' c' : Nat) (xs ys : List Int) (w : World), K w → Nums .u8 w w.heap.size A n xs → Nums .u8 w w.heap.size A' n' ys → (∀ x ∈ xs, Byte x) → (∀ x ∈ ys, Byte x) → n ≤ 3000 → n' ≤ 3000 → Calls Try.prog 15 #[.agg (msV p A n c), .agg (msV q A' n' c')] w (Ret w (.bool (sameM p xs q ys)))
  lay : ∀ (C1 C2 : Array Value) (s1 s2 : Bool) (b1 b2 : List Int) (m : Ms) (A : Option Addr) (n c : Nat) (xs : List Int) (w : World), K w → chkC.AddrC C1 s1 b1 → chkC.AddrC C2 s2 b2 → m.Ok → Nums .u8 w w.heap.size A n xs → (∀ x ∈ xs, Byte x) → n ≤ c → n ≤ 3000 → Calls Try.prog 10 #[.agg (msV m A n c), .agg C1, .agg C2] w (OwnE w (laysL s1 s2 b1 b2 m xs) (laysE m n s1))
  parse : ∀ (C1 C2 : Array Value) (s1 s2 : Bool) (b1 b2 : List Int) (A : Option Addr) (n c : Nat) (bs : List Int) (w : World), K w → chkC.AddrC C1 s1 b1 → chkC.AddrC C2 s2 b2 → Nums .u8 w w.heap.size A n bs → (∀ x ∈ bs, Byte x) → n ≤ c → c ≤ 9223372036854775807 → n ≤ 3000 → Calls Try.prog 17 #[.slice A n c, .agg C1, .agg C2] w (PsM w (psI s1 (goodI s1 s2 b1 b2 bs) bs))
  reply : ∀ (m : Ms) (A : Option Addr) (n c : Nat) (xs : List Int) (w : World), K w → m.Ok → Nums .u8 w w.heap.size A n xs → (∀ x ∈ xs, Byte x) → n ≤ c → n ≤ 3000 → Calls Try.prog 20 #[.agg (msV m A n c)] w (MsB w (repM m) (repL m xs) (decide (m.ki = 1)))
  about : ∀ (k : Int) (A : Option Addr) (n c : Nat) (six : Bool) (xs : List Int) (w : World), K w → Nums .u8 w w.heap.size A n xs → (∀ x ∈ xs, Byte x) → n ≤ c → c ≤ 9223372036854775807 → n ≤ 3000 → Calls Try.prog 22 #[.int .i64 k, .slice A n c, .bool six] w (MsR w (abM k) (abL k six xs))
theorem cs_info0 : (Try.prog.info? 36).map (·.size) = some 6 := by kernel_rfl
theorem MsC.cinfo {C : Array Value} {m : Ms} {A : Option Addr} {n c : Nat} (h : MsC C m A n c) : (Try.prog.info? 36).map (·.size) = some C.size := by rw [cs_info0, h.size]
theorem zCs_info : (Try.prog.info? 36).map (·.zero) = some (some (.agg (msV zMs none 0 0))) := by kernel_rfl
theorem zeroCs (w : World) : (zeroValue 36).run Try.prog w = .ok (.agg (msV zMs none 0 0)) w := by
  obtain ⟨i, hi, hz⟩ := Option.map_eq_some_iff.1 zCs_info
  simp [zeroValue, typeInfo, hi, hz]
theorem zCs_built : Try.prog.built 36 [] = some (msV zMs none 0 0) := by kernel_rfl
theorem cs_built6 (a b c d e : Int) (A : Option Addr) (n k : Nat) : Try.prog.built 36 [(0, .int .i64 a), (1, .int .u8 b), (2, .int .u16 c), (3, .int .u16 d), (4, .int .u32 e), (5, .slice A n k)] = some (msV ⟨a, b, c, d, e⟩ A n k) := by kernel_rfl
theorem ms_built6 (a b c d e : Int) (A : Option Addr) (n k : Nat) : Try.prog.built 26 [(0, .int .i64 a), (1, .int .u8 b), (2, .int .u16 c), (3, .int .u16 d), (4, .int .u32 e), (5, .slice A n k)] = some (msV ⟨a, b, c, d, e⟩ A n k) := by kernel_rfl
/-- a literal with fields -/
theorem built_runI {P : Program} {fr : Act} {o : Oper} {w : World} {T : TypeId} {fs : Array (Nat × Operand)} {L : List (Nat × Value)} {C : Array Value} (ho : o.op = .build T fs) (hL : fs.toList.map (fun p => (p.1, fr.eval p.2)) = L) (hb : P.built T L = some C) :
    (execOp fr.eval o).run P w = .ok (.value (.agg C)) w := by
  unfold execOp
  have e1 : (fs.map fun p => (p.1, fr.eval p.2)) = L.toArray := by rw [← hL]; apply Array.ext'; simp
  have h : (Instr.build T L.toArray).run P w = .ok (.agg C) w := run_build w T L.toArray C (by simpa using hb)
  simp [ho, e1, h, Result.andThen_ok]
set_option maxHeartbeats 1000000 in
theorem far_any (m : Ms) (A : Option Addr) (n c : Nat) (w : World) : Calls Try.prog 8 #[.agg (msV m A n c)] w (Ret w (.bool (decide (3000 < n)))) := by
  obtain ⟨W, hW⟩ : ∃ W, W = w.alloc (.cells (msV m A n c) 26) := ⟨_, rfl⟩
  have R : W.heap[w.heap.size]? = some (.cells (msV m A n c) 26 (0, 0)) := by rw [hW]; exact heap_alloc_new _ _
  have HB := Lib.hid (show Below w.heap.size w W by rw [hW]; exact alloc_below _ _)
  have p5 := pkC.PkC.cell R (msC m A n c).da
  generalize msV m A n c = CP at *
  obtain ⟨b, hb⟩ : ∃ b, b = decide (3000 < n) := ⟨_, rfl⟩
  have HV := Lib.hid (show decide ((n : Int) > 3000) = b by rw [hb]; exact decide_eq_decide.2 ⟨fun h => by omega, fun h => by omega⟩)
  rw [← hb]
  clear hb R
  have hv := HV.out
  go_enter Try.func8, Try.ntmps8
  go_upto_region 1 with fail
  rw [← hW]
  clear hW
  go_wp2_with fail
  go_ret
  exact ⟨rfl, HB.out⟩
set_option maxRecDepth 100000 in
set_option maxHeartbeats 400000 in
theorem theirs_any (m : Ms) (A : Option Addr) (n c : Nat) (w : World) : Calls Try.prog 11 #[.agg (msV m A n c)] w (Ret w (.agg (msV m A n c))) := by
  have hzv := zeroCs
  obtain ⟨W0, hW0⟩ : ∃ W, W = w.alloc (.cells (msV m A n c) 26) := ⟨_, rfl⟩
  obtain ⟨W, hW⟩ : ∃ W, W = W0.alloc (.cells (msV zMs none 0 0) 36) := ⟨_, rfl⟩
  have z0 : W0.heap.size = w.heap.size + 1 := by rw [hW0, alloc_size]
  have B0 : Below w.heap.size w W0 := by rw [hW0]; exact alloc_below _ _
  have B1 : Below W0.heap.size W0 W := by rw [hW]; exact alloc_below _ _
  have HB := Lib.hid (show Below w.heap.size w W from B0.trans (B1.mono (by omega)))
  have R : W.heap[w.heap.size]? = some (.cells (msV m A n c) 26 (0, 0)) := by rw [B1.block _ (by omega), hW0]; exact heap_alloc_new _ _
  have RZ := Lib.hid (show W.heap[w.heap.size + 1]? = some (.cells (msV zMs none 0 0) 36 (0, 0)) by rw [hW, ← z0]; exact heap_alloc_new _ _)
  have OC := msC m A n c
  have p0 := pkC.PkC.cell R OC.ki
  have p1 := pkC.PkC.cell R OC.co
  have p2 := pkC.PkC.cell R OC.id
  have p3 := pkC.PkC.cell R OC.sq
  have p4 := pkC.PkC.cell R OC.mt
  have p5 := pkC.PkC.cell R OC.da
  have BT := Lib.hid (cs_built6 m.ki m.co m.id m.sq m.mt A n c)
  have IQ := Lib.hid OC.cinfo
  have SQ := Lib.hid (ms_size zMs m none A 0 0 n c)
  have OQ := Lib.hid (ms_one m A n c)
  generalize msV m A n c = CP at *
  generalize msV zMs none 0 0 = ZS at *
  generalize m.ki = a0 at *
  generalize m.co = a1 at *
  generalize m.id = a2 at *
  generalize m.sq = a3 at *
  generalize m.mt = a4 at *
  clear OC B0 B1 R
  go_enter Try.func11, Try.ntmps11
  go_upto_region 1 with fail
  rw [← hW0, ← hW]
  try rw [z0]
  clear hW0 hW z0 hzv
  go_wp2_with (first
    | (with_reducible refine at_buildI 36 ?_; refine wpList_runG (by kernel_rfl) _ (built_runI (T := 36) (L := [(0, .int .i64 a0), (1, .int .u8 a1), (2, .int .u16 a2), (3, .int .u16 a3), (4, .int .u32 a4), (5, .slice A n c)]) rfl rfl BT.out) ?_)
    | (refine wpList_store_row rfl 36 (.tmp 2) (.tmp 15) rfl (w.heap.size + 1) _ rfl rfl _ _ RZ.out IQ.out SQ.out OQ.out ?_))
  refine bodyPost_ret (v := .agg CP) (Go.results_cell_row Try.results11 _ _ (w.heap.size + 1) _ _ _ _ (by rfl) (setRow_heap _ _ _ _ _ _ RZ.out) Try.underlying36 rfl IQ.out) rfl ?_
  exact ⟨rfl, setR_belowI HB.out (by omega) _⟩
set_option maxRecDepth 100000 in
set_option maxHeartbeats 400000 in
theorem ours_any (m : Ms) (A : Option Addr) (n c : Nat) (w : World) : Calls Try.prog 19 #[.agg (msV m A n c)] w (Ret w (.agg (msV m A n c))) := by
  have hzv := zeroMs
  obtain ⟨W0, hW0⟩ : ∃ W, W = w.alloc (.cells (msV m A n c) 36) := ⟨_, rfl⟩
  obtain ⟨W, hW⟩ : ∃ W, W = W0.alloc (.cells (msV zMs none 0 0) 26) := ⟨_, rfl⟩
  have z0 : W0.heap.size = w.heap.size + 1 := by rw [hW0, alloc_size]
  have B0 : Below w.heap.size w W0 := by rw [hW0]; exact alloc_below _ _
  have B1 : Below W0.heap.size W0 W := by rw [hW]; exact alloc_below _ _
  have HB := Lib.hid (show Below w.heap.size w W from B0.trans (B1.mono (by omega)))
  have R : W.heap[w.heap.size]? = some (.cells (msV m A n c) 36 (0, 0)) := by rw [B1.block _ (by omega), hW0]; exact heap_alloc_new _ _
  have RZ := Lib.hid (show W.heap[w.heap.size + 1]? = some (.cells (msV zMs none 0 0) 26 (0, 0)) by rw [hW, ← z0]; exact heap_alloc_new _ _)
  have OC := msC m A n c
  have p0 := pkC.PkC.cell R OC.ki
  have p1 := pkC.PkC.cell R OC.co
  have p2 := pkC.PkC.cell R OC.id
  have p3 := pkC.PkC.cell R OC.sq
  have p4 := pkC.PkC.cell R OC.mt
  have p5 := pkC.PkC.cell R OC.da
  have BT := Lib.hid (ms_built6 m.ki m.co m.id m.sq m.mt A n c)
  have IQ := Lib.hid OC.info
  have SQ := Lib.hid (ms_size zMs m none A 0 0 n c)
  have OQ := Lib.hid (ms_one m A n c)
  generalize msV m A n c = CP at *
  generalize msV zMs none 0 0 = ZS at *
  generalize m.ki = a0 at *
  generalize m.co = a1 at *
  generalize m.id = a2 at *
  generalize m.sq = a3 at *
  generalize m.mt = a4 at *
  clear OC B0 B1 R
  go_enter Try.func19, Try.ntmps19
  go_upto_region 1 with fail
  rw [← hW0, ← hW]
  try rw [z0]
  clear hW0 hW z0 hzv
  go_wp2_with (first
    | (with_reducible refine at_buildI 26 ?_; refine wpList_runG (by kernel_rfl) _ (built_runI (T := 26) (L := [(0, .int .i64 a0), (1, .int .u8 a1), (2, .int .u16 a2), (3, .int .u16 a3), (4, .int .u32 a4), (5, .slice A n c)]) rfl rfl BT.out) ?_)
    | (refine wpList_store_row rfl 26 (.tmp 2) (.tmp 15) rfl (w.heap.size + 1) _ rfl rfl _ _ RZ.out IQ.out SQ.out OQ.out ?_))
  refine bodyPost_ret (v := .agg CP) (Go.results_cell_row Try.results19 _ _ (w.heap.size + 1) _ _ _ _ (by rfl) (setRow_heap _ _ _ _ _ _ RZ.out) Try.underlying26 rfl IQ.out) rfl ?_
  exact ⟨rfl, setR_belowI HB.out (by omega) _⟩
end Go.Proofs.Ytmbfgolcinniiaa.icC

/-
  An echo is laid, parsed, and answered.
-/
namespace Go.Proofs.Ytmbfgolcinniiaa.icC
open Go.ChangeShapes Go.WideShapes Go.ChangeAt Go.RowKit
open Go.Proofs.Ytmbfgolcinniiaa.memC Go.Proofs.Ytmbfgolcinniiaa.genC Go.Proofs.Ytmbfgolcinniiaa.butC Go.Proofs.Ytmbfgolcinniiaa.freeC Go.Proofs.Ytmbfgolcinniiaa.adC
open Go.Proofs.Ytmbfgolcinniiaa.pkC (OwnE)
set_option linter.unusedVariables false
def zAdr : Array Value := #[.bool false, .int .u8 0, .int .u8 0, .int .u8 0, .int .u8 0, .int .u8 0, .int .u8 0, .int .u8 0, .int .u8 0, .int .u8 0, .int .u8 0, .int .u8 0, .int .u8 0, .int .u8 0, .int .u8 0, .int .u8 0, .int .u8 0]
theorem zAdr_ok : chkC.AddrC zAdr false (List.replicate 16 0) := by
  refine ⟨rfl, rfl, rfl, fun i hi => ?_, fun x hx => ?_⟩
  · match i, hi with
    | 0, _ | 1, _ | 2, _ | 3, _ | 4, _ | 5, _ | 6, _ | 7, _ => rfl
    | 8, _ | 9, _ | 10, _ | 11, _ | 12, _ | 13, _ | 14, _ | 15, _ => rfl
    | i + 16, h => exact absurd h (by omega)
  · rw [List.eq_of_mem_replicate hx]; exact ⟨by decide, by decide⟩
theorem zAdr_built : Try.prog.built 29 [] = some zAdr := by kernel_rfl
/-- the echo that is tried -/
def kM : Ms := ⟨1, 0, 1, 2, 0⟩
def kA : Ms := ⟨2, 0, 1, 2, 0⟩
theorem kM_ok : kM.Ok := ⟨by unfold I64 kM; decide, by unfold Byte kM; decide, by unfold U16 kM; decide, by unfold U16 kM; decide, by unfold U32 kM; decide⟩
theorem kM_built : Try.prog.built 36 [(0, .int .i64 1), (2, .int .u16 1), (3, .int .u16 2)] = some (msV kM none 0 0) := by kernel_rfl
theorem kM_lay : layM kM 0 false = true := by decide
def kL : List Int := [8, 0, 247, 252, 0, 1, 0, 2]
theorem kM_bytes : laysL false false (List.replicate 16 0) (List.replicate 16 0) kM [] = kL := by
  unfold laysL
  rw [if_pos (by decide)]
  unfold ckM sumM bytesM headM coM tyM kM kL
  simp [chkM.fo, chkM.wsum, octC.numL, octC.byteAt]
theorem kM_err : laysE kM 0 false = 0 := by unfold laysE; rw [if_pos kM_lay]
theorem built_run0 {P : Program} {fr : Act} {o : Oper} {w : World} {T : TypeId} {C : Array Value} (ho : o.op = .build T #[]) (hb : P.built T [] = some C) :
    (execOp fr.eval o).run P w = .ok (.value (.agg C)) w := built_runI (L := []) ho rfl hb
set_option maxRecDepth 100000 in
set_option maxHeartbeats 1000000 in
theorem alive_any {K : World → Prop} (F : IcF K) (w : World) (hk : K w) : Calls Try.prog 9 #[] w (Ret w (.bool true)) := by
  have hzv := zeroCs
  obtain ⟨CS, hCS⟩ : ∃ C, C = msV kM none 0 0 := ⟨_, rfl⟩
  obtain ⟨ZS, hZS⟩ : ∃ C, C = msV zMs none 0 0 := ⟨_, rfl⟩
  obtain ⟨ZA, hZA⟩ : ∃ C, C = zAdr := ⟨_, rfl⟩
  have BS := Lib.hid kM_built
  have BA := Lib.hid zAdr_built
  rw [← hCS] at BS
  rw [← hZA] at BA
  simp only [← hZS] at hzv
  have IS := Lib.hid (show (Try.prog.info? 36).map (·.size) = some CS.size by rw [hCS]; exact (msC kM none 0 0).cinfo)
  have SS := Lib.hid (show ZS.size = CS.size by rw [hCS, hZS]; rfl)
  have OS := Lib.hid (show CS.all (·.oneCell') = true by rw [hCS]; exact ms_one kM none 0 0)
  have IX := Lib.hid (fun (m : Ms) (A : Option Addr) (n c : Nat) => (msC m A n c).cinfo)
  have SX := Lib.hid (fun (m : Ms) (A : Option Addr) (n c : Nat) => (show ZS.size = (msV m A n c).size by rw [hZS]; rfl))
  have OX := Lib.hid (fun (m : Ms) (A : Option Addr) (n c : Nat) => ms_one m A n c)
  have LD := laidI zAdr_ok zAdr_ok kM_ok (xs := []) kM_lay (by simp)
  rw [kM_bytes] at LD
  have KK := Lib.hid (fun (w' : World) (h : Below w.heap.size w w') => F.keep w w' hk h)
  have LC := Lib.hid (fun (w' : World) (h : K w') => (show Calls Try.prog 10 #[.agg CS, .agg ZA, .agg ZA] w' (OwnE w' kL 0) by
    have h1 := F.lay zAdr zAdr false false (List.replicate 16 0) (List.replicate 16 0) kM none 0 0 [] w' h zAdr_ok zAdr_ok kM_ok (Nums.none_ 0) (by simp) (Nat.le_refl _) (by decide)
    rw [kM_bytes, kM_err] at h1
    rw [hZA, hCS]
    exact h1))
  have PC := Lib.hid (fun (w' : World) (h : K w') (A : Option Addr) (n c : Nat) (hb : Nums .u8 w' w'.heap.size A n kL) (hc : n ≤ c) (hcm : c ≤ 9223372036854775807) => (show Calls Try.prog 17 #[.slice A n c, .agg ZA, .agg ZA] w' (PsM w' (0, kM, [])) by
    have hl := hb.len
    have h1 := F.parse zAdr zAdr false false (List.replicate 16 0) (List.replicate 16 0) A n c kL w' h zAdr_ok zAdr_ok hb LD.2.2.2.1 hc hcm (by rw [← hl]; decide)
    rw [LD.2.1] at h1
    rw [hZA]
    exact h1))
  have RC := Lib.hid (fun (A : Option Addr) (c : Nat) (w' : World) (h : K w') => (show Calls Try.prog 20 #[.agg (msV kM A 0 c)] w' (MsB w' kA [] true) from
    F.reply kM A 0 c [] w' h kM_ok ⟨rfl, fun h => absurd h (Nat.lt_irrefl 0)⟩ (by simp) (Nat.zero_le _) (by decide)))
  have SC := Lib.hid (fun (A : Option Addr) (c : Nat) (w' : World) (h : K w') => (show Calls Try.prog 15 #[.agg CS, .agg (msV kM A 0 c)] w' (Ret w' (.bool true)) by
    have h1 := F.same kM kM none A 0 0 0 c [] [] w' h (Nums.none_ 0) ⟨rfl, fun h => absurd h (Nat.lt_irrefl 0)⟩ (by simp) (by simp) (by decide) (by decide)
    rw [sameM_self] at h1
    rw [hCS]
    exact h1))
  have KF := Lib.hid (fun (A : Option Addr) (c : Nat) (w' : World) (g : Nat) (h : w'.heap[g]? = some (.cells (msV kA A 0 c) 36 (0, 0))) => (show w'.cell? ⟨g, 0, none⟩ = some (.int .i64 2) from pkC.PkC.cell h (msC kA A 0 c).ki))
  have KQ := Lib.hid (fun (A : Option Addr) (c : Nat) (w' : World) (g : Nat) (h : w'.heap[g]? = some (.cells (msV kA A 0 c) 36 (0, 0))) => (show w'.cell? ⟨g, 3, none⟩ = some (.int .u16 2) from pkC.PkC.cell h (msC kA A 0 c).sq))
  have HS := Lib.hid (show ((strOfNums kL).toList == (ByteArray.mk #[8, 0, 247, 252, 0, 1, 0, 2]).toList) = true by kernel_rfl)
  clear hCS hZS hZA LD hk F
  go_enter Try.func9, Try.ntmps9
  go_upto_region 2 with (first
    | (with_reducible refine at_buildI 36 ?_; refine wpList_runG (by kernel_rfl) _ (built_runI (T := 36) (L := [(0, .int .i64 1), (2, .int .u16 1), (3, .int .u16 2)]) rfl rfl BS.out) ?_)
    | (refine wpList_store_row rfl 36 (.tmp 1) (.tmp 8) rfl w.heap.size CS rfl rfl _ _ (heap_alloc_new _ _) IS.out SS.out OS.out ?_; rw [World.setRow_alloc_new]))
  have R1 := Lib.hid (heap_alloc_new w (.cells CS 36))
  have B1 := Lib.hid (alloc_below w (.cells CS 36))
  generalize w.alloc (.cells CS 36) = w1 at *
  go_upto_region 3 with (first
    | (with_reducible refine at_buildI 29 ?_; refine wpList_runG (by kernel_rfl) _ (built_run0 (T := 29) rfl BA.out) ?_)
    | (refine wpList_load_row rfl 36 (.tmp 1) rfl w.heap.size rfl _ _ _ _ R1.out Try.underlying36 rfl IS.out ?_)
    | (go_at_call 10; (refine (LC.out w1 (KK.out _ B1.out)).mono ?_); rintro e w2 ⟨A2, n2, c2, rfl, O2, B2⟩
       have HO2 := Lib.hid O2
       have HB2 := Lib.hid (B1.out.trans (B2.mono B1.out.size))
       have R2 := Lib.hid ((B2.block _ (lt_of_rowI R1.out)).trans R1.out)
       clear O2 B2))
  clear R1 B1 LC BS SS OS
  have FM := Lib.hid (show n2 ≤ c2 ∧ c2 ≤ 9223372036854775807 by
    obtain ⟨A', c', e, g1, g2, -⟩ := HO2.out.form
    cases e
    unfold maxLen at g2
    exact ⟨g1, by omega⟩)
  go_upto_region 4 with (first
    | (with_reducible refine at_buildI 29 ?_; refine wpList_runG (by kernel_rfl) _ (built_run0 (T := 29) rfl BA.out) ?_)
    | (go_at_call 17; (refine (PC.out w2 (KK.out _ HB2.out) A2 n2 c2 HO2.out.nums FM.out.1 FM.out.2).mono ?_); rintro e w3 ⟨A3, n3, c3, rfl, O3, BB⟩
       obtain rfl : n3 = 0 := O3.len.symm
       have HB3 := Lib.hid (HB2.out.trans (BB.mono HB2.out.size))
       have R3 := Lib.hid ((BB.block _ (lt_of_rowI R2.out)).trans R2.out)
       have HO3 := Lib.hid (HO2.out.below BB)
       clear O3 BB)
    | (refine wpList_store_row rfl 36 (.tmp 4) (.tmp 21) rfl w3.heap.size _ rfl rfl _ _ (heap_alloc_new _ _) (IX.out kM A3 0 c3) (SX.out kM A3 0 c3) (OX.out kM A3 0 c3) ?_; rw [World.setRow_alloc_new]))
  have IY := Lib.hid (IX.out kM A3 0 c3)
  have RD := Lib.hid (RC.out A3 c3)
  have SD := Lib.hid (SC.out A3 c3)
  clear HO2 R2 PC HB2 RC SC FM
  generalize msV kM A3 0 c3 = CX at *
  have X3 := Lib.hid (heap_alloc_new w3 (.cells CX 36))
  have B3' := Lib.hid (alloc_below w3 (.cells CX 36))
  have HB4 := Lib.hid (HB3.out.trans (B3'.out.mono HB3.out.size))
  have R4 := Lib.hid ((B3'.out.block _ (lt_of_rowI R3.out)).trans R3.out)
  have HO4 := Lib.hid (HO3.out.below B3'.out)
  clear R3 HB3 B3' HO3
  generalize w3.alloc (.cells CX 36) = v3 at *
  generalize w3.heap.size = gx at *
  go_upto_region 5 with (first
    | (refine wpList_load_row rfl 36 (.tmp 4) rfl gx rfl _ _ _ _ X3.out Try.underlying36 rfl IY.out ?_)
    | (go_at_call 20; (refine (RD.out v3 (KK.out _ HB4.out)).mono ?_); rintro e w5 ⟨A5, n5, c5, rfl, O5, BB⟩
       obtain rfl : n5 = 0 := O5.len.symm
       have HB5 := Lib.hid (HB4.out.trans (BB.mono HB4.out.size))
       have R5 := Lib.hid ((BB.block _ (lt_of_rowI R4.out)).trans R4.out)
       have X5 := Lib.hid ((BB.block _ (lt_of_rowI X3.out)).trans X3.out)
       have HO5 := Lib.hid (HO4.out.below BB)
       clear BB O5)
    | (refine wpList_store_row rfl 36 (.tmp 6) (.tmp 26) rfl w5.heap.size _ rfl rfl _ _ (heap_alloc_new _ _) (IX.out kA A5 0 c5) (SX.out kA A5 0 c5) (OX.out kA A5 0 c5) ?_; rw [World.setRow_alloc_new]))
  have KFX := Lib.hid (KF.out A5 c5)
  have KQX := Lib.hid (KQ.out A5 c5)
  clear KF KQ IX SX OX
  generalize msV kA A5 0 c5 = CA at *
  have A6 := Lib.hid (heap_alloc_new w5 (.cells CA 36))
  have B6 := Lib.hid (alloc_below w5 (.cells CA 36))
  have HB6 := Lib.hid (HB5.out.trans (B6.out.mono HB5.out.size))
  have R6 := Lib.hid ((B6.out.block _ (lt_of_rowI R5.out)).trans R5.out)
  have X6 := Lib.hid ((B6.out.block _ (lt_of_rowI X5.out)).trans X5.out)
  have HO6 := Lib.hid (HO5.out.below B6.out)
  clear HB4 R4 X3 HB5 R5 X5 B6 RD hzv HO4 HO5
  generalize w5.alloc (.cells CA 36) = v5 at *
  generalize w5.heap.size = ga at *
  have hcx := (show (convert 24 9 (.slice A2 n2 c2)).run Try.prog v5 = .ok (.string (strOfNums kL)) v5 from run_string HO6.out.nums c2 24 5 9 Try.underlying24 Try.underlying5 Try.underlying9)
  generalize strOfNums kL = X at *
  clear HO6
  go_wp2_with (first
    | (with_reducible refine atC.at_bin .eql 9 ?_; refine wpList_runG (by kernel_rfl) _ (seq_run (T := 9) (S := X) (S' := ByteArray.mk #[8, 0, 247, 252, 0, 1, 0, 2]) rfl (by kernel_rfl) (by kernel_rfl) HS.out) ?_)
    | (refine wpList_load_rowG (by kernel_rfl) 36 (.tmp 1) rfl w.heap.size (by kernel_rfl) _ _ _ _ R6.out Try.underlying36 rfl IS.out ?_)
    | (refine wpList_load_rowG (by kernel_rfl) 36 (.tmp 4) rfl gx (by kernel_rfl) _ _ _ _ X6.out Try.underlying36 rfl IY.out ?_)
    | (go_at_call 15; (refine (SD.out v5 (KK.out _ HB6.out)).mono ?_); rintro e w7 ⟨rfl, BB⟩
       have HB7 := Lib.hid (HB6.out.trans (BB.mono HB6.out.size))
       have A7 := Lib.hid ((BB.block _ (lt_of_rowI A6.out)).trans A6.out)
       have kf := KFX.out w7 ga A7.out
       have kq := KQX.out w7 ga A7.out
       clear BB))
  go_ret
  exact ⟨rfl, HB7.out⟩
end Go.Proofs.Ytmbfgolcinniiaa.icC

/-
  The walk of IcmpParses.
-/
namespace Go.Proofs.Ytmbfgolcinniiaa.icC
open Go.ChangeShapes Go.WideShapes Go.ChangeAt Go.RowKit
open Go.Proofs.Ytmbfgolcinniiaa.memC Go.Proofs.Ytmbfgolcinniiaa.genC Go.Proofs.Ytmbfgolcinniiaa.butC Go.Proofs.Ytmbfgolcinniiaa.freeC Go.Proofs.Ytmbfgolcinniiaa.adC
set_option linter.unusedVariables false
theorem two_row {w' : World} {g : Nat} {l1 l2 : List Value} (h1 : l1.length = 17) (hr : w'.heap[g]? = some (.cells (l1 ++ l2).toArray 30 (0, 0))) :
    (∀ j v, l1[j]? = some v → w'.cell? ⟨g, 0 + j, none⟩ = some v) ∧ (∀ j v, l2[j]? = some v → w'.cell? ⟨g, 17 + j, none⟩ = some v) := by
  refine ⟨fun j v h => ?_, fun j v h => ?_⟩
  · refine pkC.PkC.cell hr ?_
    have hj : j < l1.length := (List.getElem?_eq_some_iff.1 h).1
    simp only [Nat.zero_add, List.getElem?_toArray]
    rw [List.getElem?_append_left hj]; exact h
  · refine pkC.PkC.cell hr ?_
    simp only [List.getElem?_toArray]
    rw [List.getElem?_append_right (by omega), show 17 + j - l1.length = j by omega]; exact h
/-- what an error gives -/
def wpV (g5 g7 : Nat) (CX CY : Array Value) (er : Int) : Nat → Value → World → Prop
  | 0, v, _ => v = .agg CX
  | 1, v, _ => v = .agg CX
  | 2, v, _ => v = .agg CY
  | 3, v, _ => v = .bool true
  | 4, v, _ => v = .bool true
  | 5, v, _ => v = .int .i64 er
  | 6, v, _ => v = .int .i64 er
  | 7, v, _ => v = .bool true
  | 8, v, _ => v = .bool true
  | 9, v, _ => v = .bool true
  | 10, v, _ => v = .bool true
  | 11, v, _ => v = .bool true
  | 12, v, _ => v = .bool true
  | _, _, _ => True
theorem wpV.keep (g5 g7 : Nat) (CX CY : Array Value) (er : Int) (i : Nat) (v : Value) (w w' : World) (hb : Below w.heap.size w w') (h : wpV g5 g7 CX CY er i v w) : wpV g5 g7 CX CY er i v w' := by
  unfold wpV at h ⊢
  split at h <;> exact h
def wpT : List (Option Nat) := [none, none, none, none, some 12, none, none, none, none, none, none, none, none, none, none, none, none, none, none, none, none, none, none, none, none, none, none, none, none, none, none, some 0, some 1, some 2, some 3, some 4, some 5, some 6, some 7, some 8, some 9, some 10, some 11]
set_option maxRecDepth 100000 in
set_option maxHeartbeats 1000000 in
theorem parses_walk {K : World → Prop} (F : IcF K) (l1 l2 : List Value) (s1 s2 : Bool) (b1 b2 : List Int) (A0 : Option Addr) (n0 c0 : Nat) (bs : List Int) (w : World) (hk : K w) (e1 : l1.length = 17) (e2 : l2.length = 17) (h1 : chkC.AddrC l1.toArray s1 b1) (h2 : chkC.AddrC l2.toArray s2 b2)
    (hb : Nums .u8 w w.heap.size A0 n0 bs) (hy : ∀ x ∈ bs, Byte x) (hnc : n0 ≤ c0) (hcm : c0 ≤ 9223372036854775807) : Calls Try.prog 4 #[.slice A0 n0 c0, .agg (l1 ++ l2).toArray] w (Ret w (.bool true)) := by
  have hzc := zeroCs
  have hzm := zeroMs
  obtain ⟨ZS, hZS⟩ : ∃ Z, Z = msV zMs none 0 0 := ⟨_, rfl⟩
  simp only [← hZS] at hzc hzm
  have E1 := Lib.hid e1
  have U1 := Lib.hid (show (Try.prog.info? 29).map (·.size) = some l1.length by rw [e1]; exact addr_infoI)
  have U2 := Lib.hid (show (Try.prog.info? 29).map (·.size) = some l2.length by rw [e2]; exact addr_infoI)
  have AL := Lib.hid (fun (w' : World) (h : Below w.heap.size w w') => alive_any F w' (F.keep w w' hk h))
  obtain ⟨W, hW⟩ : ∃ W, W = w.alloc (.cells (l1 ++ l2).toArray 30) := ⟨_, rfl⟩
  have HB := Lib.hid (show Below w.heap.size w W by rw [hW]; exact alloc_below _ _)
  have RT := Lib.hid (show W.heap[w.heap.size]? = some (.cells (l1 ++ l2).toArray 30 (0, 0)) by rw [hW]; exact heap_alloc_new w _)
  obtain ⟨CT, hCT⟩ : ∃ C, C = (l1 ++ l2).toArray := ⟨_, rfl⟩
  by_cases h3 : 3000 < n0
  · have q3 : (n0 : Int) > 3000 := by omega
    rw [← hCT] at hW RT ⊢
    clear hb hy hnc hcm h3 hCT hZS h1 h2 e1 e2 hk F
    go_enter Try.func4, Try.ntmps4
    go_upto_region 1 with fail
    rw [← hW]
    clear hW
    go_wp2_with (first
      | (go_at_call 9; (refine (AL.out _ HB.out).mono ?_); rintro e w3 ⟨rfl, BB⟩
         have HB3 := Lib.hid (HB.out.trans (BB.mono HB.out.size))
         clear BB))
    go_ret
    exact ⟨rfl, HB3.out⟩
  have q3 : ¬ (n0 : Int) > 3000 := by omega
  have q3b : decide ((n0 : Int) > 3000) = false := decide_eq_false q3
  obtain ⟨R3, hR3⟩ : ∃ r, r = psI s1 (goodI s1 s2 b1 b2 bs) bs := ⟨_, rfl⟩
  have NB := Lib.hid (fun (w' : World) (h : Below w.heap.size w w') => (hb.below h).more h.size)
  have PC := Lib.hid (fun (w' : World) (h : Below w.heap.size w w') => F.parse l1.toArray l2.toArray s1 s2 b1 b2 A0 n0 c0 bs w' (F.keep w w' hk h) h1 h2 (NB.out w' h) hy hnc hcm (by omega))
  have PR := Lib.hid (fun (w' : World) (h : Below w.heap.size w w') => rparse_any l1.toArray l2.toArray s1 s2 b1 b2 A0 n0 c0 bs w' h1 h2 (NB.out w' h) hy (by omega) hnc hcm)
  rw [← hR3] at PC PR
  have YX := Lib.hid (show ∀ x ∈ R3.2.2, Byte x by
    by_cases h0 : R3.1 = 0
    · have h9 := againI h1 h2 hy (gd := goodI s1 s2 b1 b2 bs) (m := R3.2.1) (xs := R3.2.2) (by rw [← hR3]; exact Prod.ext h0 rfl)
      exact h9.2.2.1
    · have h9 := ps_bad (six := s1) (gd := goodI s1 s2 b1 b2 bs) (bs := bs) (by rw [← hR3]; exact h0)
      rw [← hR3] at h9
      rw [h9]; simp)
  clear hR3
  obtain ⟨er, mR, XD⟩ := R3
  have IXC := Lib.hid (fun (A : Option Addr) (n c : Nat) => (msC mR A n c).cinfo)
  have IXM := Lib.hid (fun (A : Option Addr) (n c : Nat) => (msC mR A n c).info)
  have SX := Lib.hid (fun (A : Option Addr) (n c : Nat) => (show ZS.size = (msV mR A n c).size by rw [hZS]; rfl))
  have OX := Lib.hid (fun (A : Option Addr) (n c : Nat) => ms_one mR A n c)
  rw [← hCT] at hW ⊢
  clear hb hy hnc hcm h3 hZS h1 h2 e1 e2 hk F NB hCT
  go_enter Try.func4, Try.ntmps4
  go_upto_region 1 with fail
  rw [← hW]
  clear hW
  go_upto_region 4 with (first
    | (refine pkC.wpList_load_partG (by kernel_rfl) 29 (.tmp 15) rfl (w.heap.size) 0 (by kernel_rfl) l1 _ (two_row E1.out RT.out).1 Try.underlying29 rfl U1.out ?_)
    | (refine pkC.wpList_load_partG (by kernel_rfl) 29 (.tmp 17) rfl (w.heap.size) 17 (by kernel_rfl) l2 _ (two_row E1.out RT.out).2 Try.underlying29 rfl U2.out ?_)
    | (go_at_call 17; (refine (PC.out W HB.out).mono ?_); rintro e w2 ⟨A2, n2, c2, rfl, O2, BB⟩
       have HB2 := Lib.hid (HB.out.trans (BB.mono HB.out.size))
       have RT2 := Lib.hid ((BB.block _ (lt_of_rowI RT.out)).trans RT.out)
       have HO2 := Lib.hid O2
       clear BB O2)
    | (refine wpList_store_row rfl 36 (.tmp 5) (.tmp 20) rfl w2.heap.size _ rfl rfl _ _ (heap_alloc_new _ _) (IXC.out A2 n2 c2) (SX.out A2 n2 c2) (OX.out A2 n2 c2) ?_; rw [World.setRow_alloc_new]))
  have R5 := Lib.hid (heap_alloc_new w2 (.cells (msV mR A2 n2 c2) 36))
  have B3 := alloc_below w2 (.cells (msV mR A2 n2 c2) 36)
  have HB3 := Lib.hid (HB2.out.trans (B3.mono HB2.out.size))
  have RT3 := Lib.hid ((B3.block _ (lt_of_rowI RT2.out)).trans RT2.out)
  have HO3 := Lib.hid (HO2.out.below B3)
  clear B3 HO2 RT2 HB2 RT PC hzc q3 q3b
  obtain ⟨w3, hw3⟩ : ∃ q, q = w2.alloc (.cells (msV mR A2 n2 c2) 36) := ⟨_, rfl⟩
  simp only [← hw3] at R5 HB3 RT3 HO3 ⊢
  clear hw3
  generalize w2.heap.size = g5 at *
  go_upto_region 5 with (first
    | (refine pkC.wpList_load_partG (by kernel_rfl) 29 (.tmp 24) rfl (w.heap.size) 0 (by kernel_rfl) l1 _ (two_row E1.out RT3.out).1 Try.underlying29 rfl U1.out ?_)
    | (refine pkC.wpList_load_partG (by kernel_rfl) 29 (.tmp 26) rfl (w.heap.size) 17 (by kernel_rfl) l2 _ (two_row E1.out RT3.out).2 Try.underlying29 rfl U2.out ?_)
    | (go_at_call 18; (refine (PR.out w3 HB3.out).mono ?_); rintro e w4 ⟨A4, n4, c4, rfl, O4, BB⟩
       have HB4 := Lib.hid (HB3.out.trans (BB.mono HB3.out.size))
       have R54 := Lib.hid ((BB.block _ (lt_of_rowI R5.out)).trans R5.out)
       have HO4 := Lib.hid O4
       have HO34 := Lib.hid (HO3.out.below BB)
       clear BB O4)
    | (refine wpList_store_row rfl 26 (.tmp 7) (.tmp 29) rfl w4.heap.size _ rfl rfl _ _ (heap_alloc_new _ _) (IXM.out A4 n4 c4) (SX.out A4 n4 c4) (OX.out A4 n4 c4) ?_; rw [World.setRow_alloc_new]))
  have R7 := Lib.hid (heap_alloc_new w4 (.cells (msV mR A4 n4 c4) 26))
  have B5 := alloc_below w4 (.cells (msV mR A4 n4 c4) 26)
  have HBr := Lib.hid (HB4.out.trans (B5.mono HB4.out.size))
  have R55 := Lib.hid ((B5.block _ (lt_of_rowI R54.out)).trans R54.out)
  have HOa := Lib.hid (HO34.out.below B5)
  have HOb := Lib.hid (HO4.out.below B5)
  clear B5 HO34 HO4 HO3 R5 R54 RT3 HB3 HB4 PR hzm SX OX
  obtain ⟨Wr, hWr⟩ : ∃ q, q = w4.alloc (.cells (msV mR A4 n4 c4) 26) := ⟨_, rfl⟩
  simp only [← hWr] at R7 HBr R55 HOa HOb ⊢
  clear hWr
  generalize w4.heap.size = g7 at *
  have IX := Lib.hid (IXC.out A2 n2 c2)
  have IY := Lib.hid (IXM.out A4 n4 c4)
  have OU := Lib.hid (fun w' => ours_any mR A2 n2 c2 w')
  have SM := Lib.hid (fun (w' : World) (h : Gr Wr w') => (show Calls Try.prog 16 #[.agg (msV mR A2 n2 c2), .agg (msV mR A4 n4 c4)] w' (Ret w' (.bool true)) by
    have h9 := rsame_any mR mR A2 A4 n2 c2 n4 c4 XD XD w' (HOa.out.below h).nums (HOb.out.below h).nums YX.out YX.out
    rw [sameM_self] at h9
    exact h9))
  have ALX := Lib.hid (fun (w' : World) (h : Gr Wr w') => AL.out w' (HBr.out.trans (Below.mono h HBr.out.size)))
  have K5 := Lib.hid (fun (w' : World) (h : Gr Wr w') => (Below.block h _ (lt_of_rowI R55.out)).trans R55.out)
  have K7 := Lib.hid (fun (w' : World) (h : Gr Wr w') => (Below.block h _ (lt_of_rowI R7.out)).trans R7.out)
  generalize msV mR A2 n2 c2 = CX at *
  generalize msV mR A4 n4 c4 = CY at *
  clear R55 R7 HOa HOb IXC IXM YX AL
  refine with_act fun a0 ha0 => ?_
  have hl : wpT.length = a0.tmps.size := by rw [ha0]; rfl
  have k5 : a0.tmps[5]?.getD undef = .pointer (some ⟨g5, 0, none⟩) := by rw [ha0]; rfl
  have k7 : a0.tmps[7]?.getD undef = .pointer (some ⟨g7, 0, none⟩) := by rw [ha0]; rfl
  have k6 : a0.tmps[6]?.getD undef = .int .i64 er := by rw [ha0]; rfl
  have k8 : a0.tmps[8]?.getD undef = .int .i64 er := by rw [ha0]; rfl
  refine wp_region_vals (by kernel_rfl) wpT (by kernel_rfl) (by kernel_rfl) hl (fun i => if i = 12 then .bool false else undef) (by rw [ha0]; rfl) (Gr Wr) (wpV g5 g7 CX CY er) (show Gr _ _ from (Below.refl _ _).drew) (wpV.keep _ _ _ _ _) ⟨?_, ?_, ?_, ?_, ?_, ?_, ?_, ?_, ?_, ?_, ?_, ?_, ?_, trivial⟩ ?_
  · refine step_plain [] (by kernel_rfl) rfl fun us w' hG hV => ?_
    have o5 := (frame_old2 (us := us) (a := a0) (show (wpT[5]?).join = none from rfl)).trans k5
    have hg1 := (K5.out w' hG)
    generalize frame wpT a0 us = fr at *
    exact load_ok 36 5 rfl (g5) o5 _ _ (0, 0) _ hg1 Try.underlying36 rfl IX.out hG rfl
  · refine step_plain [0] (by kernel_rfl) rfl fun us w' hG hV => ?_
    have e0 : us 0 = .agg CX := hV 0 (by simp)
    have v0 := (frame_at2 (us := us) hl (show (wpT[31]?).join = some 0 from rfl)).trans e0
    generalize frame wpT a0 us = fr at *
    exact call_ok (f := 19) (args := #[.agg CX]) (by go_simp) ((OU.out w').mono fun e w'' h => ⟨_, h.1, hG.below h.2, h.2, rfl⟩)
  · refine step_plain [] (by kernel_rfl) rfl fun us w' hG hV => ?_
    have o7 := (frame_old2 (us := us) (a := a0) (show (wpT[7]?).join = none from rfl)).trans k7
    have hg1 := (K7.out w' hG)
    generalize frame wpT a0 us = fr at *
    exact load_ok 26 7 rfl (g7) o7 _ _ (0, 0) _ hg1 Try.underlying26 rfl IY.out hG rfl
  · refine step_plain [1, 2] (by kernel_rfl) rfl fun us w' hG hV => ?_
    have e1 : us 1 = .agg CX := hV 1 (by simp)
    have v1 := (frame_at2 (us := us) hl (show (wpT[32]?).join = some 1 from rfl)).trans e1
    have e2 : us 2 = .agg CY := hV 2 (by simp)
    have v2 := (frame_at2 (us := us) hl (show (wpT[33]?).join = some 2 from rfl)).trans e2
    generalize frame wpT a0 us = fr at *
    exact call_ok (f := 16) (args := #[.agg CX, .agg CY]) (by go_simp) ((SM.out w' hG).mono fun e w'' h => ⟨_, h.1, hG.below h.2, h.2, rfl⟩)
  · refine step_plain [3] (by kernel_rfl) rfl fun us w' hG hV => ?_
    have e3 : us 3 = .bool true := hV 3 (by simp)
    have v3 := (frame_at2 (us := us) hl (show (wpT[34]?).join = some 3 from rfl)).trans e3
    generalize frame wpT a0 us = fr at *
    exact val_ok (v := .bool true) (w' := w') (by go_simp) hG (Below.refl _ _) rfl
  · refine step_guard [4] (by kernel_rfl) (j := 4) (t := 35) (b := true) rfl (by simp) rfl hl rfl (fun v w h => h) fun us w' hG hV => ?_
    have o6 := (frame_old2 (us := us) (a := a0) (show (wpT[6]?).join = none from rfl)).trans k6
    generalize frame wpT a0 us = fr at *
    exact val_ok (v := .int .i64 er) (w' := w') (by go_simp) hG (Below.refl _ _) rfl
  · refine step_guard [4] (by kernel_rfl) (j := 4) (t := 35) (b := true) rfl (by simp) rfl hl rfl (fun v w h => h) fun us w' hG hV => ?_
    have o8 := (frame_old2 (us := us) (a := a0) (show (wpT[8]?).join = none from rfl)).trans k8
    generalize frame wpT a0 us = fr at *
    exact val_ok (v := .int .i64 er) (w' := w') (by go_simp) hG (Below.refl _ _) rfl
  · refine step_guard [4, 5, 6] (by kernel_rfl) (j := 4) (t := 35) (b := true) rfl (by simp) rfl hl rfl (fun v w h => h) fun us w' hG hV => ?_
    have e5 : us 5 = .int .i64 er := hV 5 (by simp)
    have v5 := (frame_at2 (us := us) hl (show (wpT[36]?).join = some 5 from rfl)).trans e5
    have e6 : us 6 = .int .i64 er := hV 6 (by simp)
    have v6 := (frame_at2 (us := us) hl (show (wpT[37]?).join = some 6 from rfl)).trans e6
    generalize frame wpT a0 us = fr at *
    exact val_ok (v := .bool true) (w' := w') (by go_simp) hG (Below.refl _ _) rfl
  · refine step_plain [4, 7] (by kernel_rfl) rfl fun us w' hG hV => ?_
    have e4 : us 4 = .bool true := hV 4 (by simp)
    have v4 := (frame_at2 (us := us) hl (show (wpT[35]?).join = some 4 from rfl)).trans e4
    have e7 : us 7 = .bool true := hV 7 (by simp)
    have v7 := (frame_at2 (us := us) hl (show (wpT[38]?).join = some 7 from rfl)).trans e7
    generalize frame wpT a0 us = fr at *
    exact val_ok (v := .bool true) (w' := w') (by go_simp) hG (Below.refl _ _) rfl
  · refine step_plain [8] (by kernel_rfl) rfl fun us w' hG hV => ?_
    have e8 : us 8 = .bool true := hV 8 (by simp)
    have v8 := (frame_at2 (us := us) hl (show (wpT[39]?).join = some 8 from rfl)).trans e8
    generalize frame wpT a0 us = fr at *
    exact val_ok (v := .bool true) (w' := w') (by go_simp) hG (Below.refl _ _) rfl
  · refine step_guard [9] (by kernel_rfl) (j := 9) (t := 40) (b := true) rfl (by simp) rfl hl rfl (fun v w h => h) fun us w' hG hV => ?_
    generalize frame wpT a0 us = fr at *
    exact call_ok (f := 9) (args := #[]) (by go_simp) ((ALX.out w' hG).mono fun e w'' h => ⟨_, h.1, hG.below h.2, h.2, rfl⟩)
  · refine step_plain [9, 10] (by kernel_rfl) rfl fun us w' hG hV => ?_
    have e9 : us 9 = .bool true := hV 9 (by simp)
    have v9 := (frame_at2 (us := us) hl (show (wpT[40]?).join = some 9 from rfl)).trans e9
    have e10 : us 10 = .bool true := hV 10 (by simp)
    have v10 := (frame_at2 (us := us) hl (show (wpT[41]?).join = some 10 from rfl)).trans e10
    generalize frame wpT a0 us = fr at *
    exact val_ok (v := .bool true) (w' := w') (by go_simp) hG (Below.refl _ _) rfl
  · refine step_plain [11] (by kernel_rfl) rfl fun us w' hG hV => ?_
    have e11 : us 11 = .bool true := hV 11 (by simp)
    have v11 := (frame_at2 (us := us) hl (show (wpT[42]?).join = some 11 from rfl)).trans e11
    generalize frame wpT a0 us = fr at *
    exact val_ok (v := .bool true) (w' := w') (by go_simp) hG (Below.refl _ _) rfl
  · intro us w5 hG hV
    have e8 : us 12 = .bool true := hV 12 (by decide)
    subst ha0
    simp only [frame, wpT, fill]
    rw [e8]
    have HG3 := Lib.hid hG
    clear hV hl hG k5 k6 k7 k8 e8
    go_wp2_with fail
    go_ret
    exact ⟨rfl, HBr.out.trans (Below.mono HG3.out HBr.out.size)⟩
end Go.Proofs.Ytmbfgolcinniiaa.icC

/-
  The walk of IcmpTurns.
-/
namespace Go.Proofs.Ytmbfgolcinniiaa.icC
open Go.ChangeShapes Go.WideShapes Go.ChangeAt Go.RowKit
open Go.Proofs.Ytmbfgolcinniiaa.memC Go.Proofs.Ytmbfgolcinniiaa.genC Go.Proofs.Ytmbfgolcinniiaa.butC Go.Proofs.Ytmbfgolcinniiaa.freeC Go.Proofs.Ytmbfgolcinniiaa.adC
set_option linter.unusedVariables false
theorem repL_byte {m : Ms} {xs : List Int} (h : ∀ x ∈ xs, Byte x) : ∀ x ∈ repL m xs, Byte x := by
  unfold repL; split
  · exact h
  · simp
theorem abL_byte {k : Int} {six : Bool} {xs : List Int} (h : ∀ x ∈ xs, Byte x) : ∀ x ∈ abL k six xs, Byte x := by
  unfold abL; split
  · exact fun x hx => h x (List.mem_of_mem_take hx)
  · simp
def wuV (g3 g7 g9 : Nat) (CX CY : Array Value) (rb six : Bool) (k : Int) (AP : Option Addr) (np cp : Nat) (mB : Ms) (YD : List Int) (base : Nat) : Nat → Value → World → Prop
  | 0, v, _ => v = .agg CX
  | 1, v, _ => v = .agg CX
  | 2, v, _ => v = .agg CY
  | 3, v, _ => v = .bool true
  | 4, v, _ => v = .bool true
  | 5, v, _ => v = .bool rb
  | 6, v, _ => v = .bool rb
  | 7, v, _ => v = .bool true
  | 8, v, _ => v = .bool true
  | 9, v, _ => v = .bool true
  | 10, v, _ => v = .pointer (some ⟨g3, 0, none⟩)
  | 11, v, _ => v = .int .i64 k
  | 12, v, _ => v = .slice AP np cp
  | 13, v, _ => v = .bool six
  | 14, v, w => ∃ A' n' c', v = .agg (msV mB A' n' c') ∧ Own .u8 5 w base (.slice A' n' c') YD
  | 15, v, w => ∃ A' n' c', v = .agg (msV mB A' n' c') ∧ Own .u8 5 w base (.slice A' n' c') YD
  | 16, v, _ => v = .pointer (some ⟨g3, 0, none⟩)
  | 17, v, _ => v = .int .i64 k
  | 18, v, _ => v = .slice AP np cp
  | 19, v, _ => v = .bool six
  | 20, v, w => ∃ A' n' c', v = .agg (msV mB A' n' c') ∧ Own .u8 5 w base (.slice A' n' c') YD
  | 21, v, _ => v = .bool true
  | 22, v, _ => v = .bool true
  | 23, v, _ => v = .bool true
  | 24, v, _ => v = .bool true
  | 25, v, _ => v = .bool true
  | 26, v, _ => v = .bool true
  | _, _, _ => True
theorem wuV.keep (g3 g7 g9 : Nat) (CX CY : Array Value) (rb six : Bool) (k : Int) (AP : Option Addr) (np cp : Nat) (mB : Ms) (YD : List Int) (base : Nat) (i : Nat) (v : Value) (w w' : World) (hb : Below w.heap.size w w') (h : wuV g3 g7 g9 CX CY rb six k AP np cp mB YD base i v w) : wuV g3 g7 g9 CX CY rb six k AP np cp mB YD base i v w' := by
  by_cases e14 : i = 14
  · subst e14
    obtain ⟨A', n', c', h1, h2⟩ := h
    exact ⟨A', n', c', h1, h2.below hb⟩
  by_cases e15 : i = 15
  · subst e15
    obtain ⟨A', n', c', h1, h2⟩ := h
    exact ⟨A', n', c', h1, h2.below hb⟩
  by_cases e20 : i = 20
  · subst e20
    obtain ⟨A', n', c', h1, h2⟩ := h
    exact ⟨A', n', c', h1, h2.below hb⟩
  unfold wuV at h ⊢
  split at h <;> first | exact h | exact absurd rfl (by assumption)
def wuT : List (Option Nat) := [none, none, none, none, none, none, some 26, none, none, none, none, none, none, none, none, none, none, none, none, none, none, none, none, none, none, none, none, none, none, none, some 0, some 1, some 2, some 3, some 4, some 5, some 6, some 7, some 8, some 9, some 10, some 11, some 12, some 13, some 14, some 15, some 16, some 17, some 18, some 19, some 20, some 21, some 22, some 23, some 24, some 25]
set_option maxRecDepth 100000 in
set_option maxHeartbeats 1000000 in
theorem turns_walk {K : World → Prop} (F : IcF K) (m : Ms) (A : Option Addr) (n c : Nat) (xs : List Int) (AP : Option Addr) (np cp : Nat) (ps : List Int) (six : Bool) (w : World) (hk : K w) (hm : m.Ok) (hx : Nums .u8 w w.heap.size A n xs) (hy : ∀ x ∈ xs, Byte x) (hnc : n ≤ c)
    (hp : Nums .u8 w w.heap.size AP np ps) (hyp : ∀ x ∈ ps, Byte x) (hpc : np ≤ cp) (hpm : cp ≤ 9223372036854775807) : Calls Try.prog 5 #[.agg (msV m A n c), .slice AP np cp, .bool six] w (Ret w (.bool true)) := by
  have hzc := zeroCs
  have hzm := zeroMs
  obtain ⟨ZS, hZS⟩ : ∃ Z, Z = msV zMs none 0 0 := ⟨_, rfl⟩
  simp only [← hZS] at hzc hzm
  have AL := Lib.hid (fun (w' : World) (h : Below w.heap.size w w') => alive_any F w' (F.keep w w' hk h))
  obtain ⟨W, hW⟩ : ∃ W, W = w.alloc (.cells (msV m A n c) 26) := ⟨_, rfl⟩
  have HB := Lib.hid (show Below w.heap.size w W by rw [hW]; exact alloc_below _ _)
  have RP := Lib.hid (show W.heap[w.heap.size]? = some (.cells (msV m A n c) 26 (0, 0)) by rw [hW]; exact heap_alloc_new w _)
  have IP := Lib.hid (msC m A n c).info
  have FA := Lib.hid (fun w' => far_any m A n c w')
  have TH := Lib.hid (fun w' => theirs_any m A n c w')
  by_cases h3 : 3000 < n
  · rw [decide_eq_true h3] at FA
    generalize msV m A n c = CP at *
    clear hx hy hnc hp hyp hpc hpm h3 hZS hk F hm TH
    go_enter Try.func5, Try.ntmps5
    go_upto_region 1 with fail
    rw [← hW]
    clear hW
    go_wp2_with (first
      | go_skip
      | (refine wpList_load_rowG (by kernel_rfl) 26 (.tmp 3) rfl (w.heap.size) (by kernel_rfl) _ _ _ _ RP.out Try.underlying26 rfl IP.out ?_)
      | (go_at_call 8; (refine (FA.out _).mono ?_); rintro e w2 ⟨rfl, BB⟩
         have HB2 := Lib.hid (HB.out.trans (BB.mono HB.out.size))
         have RP2 := Lib.hid ((BB.block _ (lt_of_rowI RP.out)).trans RP.out)
         clear BB)
      | (go_at_call 9; (refine (AL.out _ HB2.out).mono ?_); rintro e w3 ⟨rfl, BB⟩
         have HB3 := Lib.hid (HB2.out.trans (BB.mono HB2.out.size))
         clear BB))
    go_ret
    exact ⟨rfl, HB3.out⟩
  rw [decide_eq_false h3] at FA
  by_cases h4 : 3000 < np
  · have q3 : (np : Int) > 3000 := by omega
    generalize msV m A n c = CP at *
    clear hx hy hnc hp hyp hpc hpm h3 h4 hZS hk F hm TH
    go_enter Try.func5, Try.ntmps5
    go_upto_region 1 with fail
    rw [← hW]
    clear hW
    go_wp2_with (first
      | go_skip
      | (refine wpList_load_rowG (by kernel_rfl) 26 (.tmp 3) rfl (w.heap.size) (by kernel_rfl) _ _ _ _ RP.out Try.underlying26 rfl IP.out ?_)
      | (go_at_call 8; (refine (FA.out _).mono ?_); rintro e w2 ⟨rfl, BB⟩
         have HB2 := Lib.hid (HB.out.trans (BB.mono HB.out.size))
         have RP2 := Lib.hid ((BB.block _ (lt_of_rowI RP.out)).trans RP.out)
         clear BB)
      | (go_at_call 9; (refine (AL.out _ HB2.out).mono ?_); rintro e w3 ⟨rfl, BB⟩
         have HB3 := Lib.hid (HB2.out.trans (BB.mono HB2.out.size))
         clear BB))
    go_ret
    exact ⟨rfl, HB3.out⟩
  have q3 : ¬ (np : Int) > 3000 := by omega
  have q3b : decide ((np : Int) > 3000) = false := decide_eq_false q3
  have RC := Lib.hid (fun (w' : World) (h : Below w.heap.size w w') => F.reply m A n c xs w' (F.keep w w' hk h) hm ((hx.below h).more h.size) hy hnc (by omega))
  have RR := Lib.hid (fun (w' : World) (h : Below w.heap.size w w') => rreply_any m A n c xs w' ((hx.below h).more h.size) (by omega))
  have AC0 := Lib.hid (fun (w' : World) (h : Below w.heap.size w w') => F.about m.ki AP np cp six ps w' (F.keep w w' hk h) ((hp.below h).more h.size) hyp hpc hpm (by omega))
  have AR0 := Lib.hid (fun (w' : World) (h : Below w.heap.size w w') => rabout_any m.ki AP np cp six ps w' ((hp.below h).more h.size) (by omega) hpc)
  have YX := Lib.hid (repL_byte (m := m) hy)
  have YB := Lib.hid (abL_byte (k := m.ki) (six := six) hyp)
  have KI0 := Lib.hid (fun (w' : World) (h : w'.heap[w.heap.size]? = some (.cells (msV m A n c) 26 (0, 0))) => pkC.PkC.cell h (msC m A n c).ki)
  have SX := Lib.hid (fun (q : Ms) (A : Option Addr) (n c : Nat) => (show ZS.size = (msV q A n c).size by rw [hZS]; rfl))
  have SB := Lib.hid (fun (w' : World) (A' A2 : Option Addr) (n' c' n2 c2 : Nat) (a : Nums .u8 w' w'.heap.size A' n' (abL m.ki six ps)) (b : Nums .u8 w' w'.heap.size A2 n2 (abL m.ki six ps)) => (show Calls Try.prog 16 #[.agg (msV (abM m.ki) A' n' c'), .agg (msV (abM m.ki) A2 n2 c2)] w' (Ret w' (.bool true)) by
    have h9 := rsame_any (abM m.ki) (abM m.ki) A' A2 n' c' n2 c2 _ _ w' a b YB.out YB.out
    rw [sameM_self] at h9
    exact h9))
  unfold MsB at RC RR
  unfold MsR at AC0 AR0
  generalize repM m = mR at *
  generalize repL m xs = XD at *
  generalize decide (m.ki = 1) = rb at *
  generalize abM m.ki = mB at *
  generalize abL m.ki six ps = YD at *
  generalize m.ki = k at *
  generalize msV m A n c = CP at *
  have IXC := Lib.hid (fun (A : Option Addr) (n c : Nat) => (msC mR A n c).cinfo)
  have IXM := Lib.hid (fun (A : Option Addr) (n c : Nat) => (msC mR A n c).info)
  have OX := Lib.hid (fun (A : Option Addr) (n c : Nat) => ms_one mR A n c)
  clear hx hy hnc hp hyp hpc hpm h3 h4 hZS hk F hm YB
  go_enter Try.func5, Try.ntmps5
  go_upto_region 1 with fail
  rw [← hW]
  clear hW
  go_upto_region 3 with (first
    | go_skip
    | (refine wpList_load_rowG (by kernel_rfl) 26 (.tmp 3) rfl (w.heap.size) (by kernel_rfl) _ _ _ _ RP.out Try.underlying26 rfl IP.out ?_)
    | (go_at_call 8; (refine (FA.out _).mono ?_); rintro e w2 ⟨rfl, BB⟩
       have HB2 := Lib.hid (HB.out.trans (BB.mono HB.out.size))
       have RP2 := Lib.hid ((BB.block _ (lt_of_rowI RP.out)).trans RP.out)
       clear BB))
  go_upto_region 4 with (first
    | (refine wpList_load_rowG (by kernel_rfl) 26 (.tmp 3) rfl (w.heap.size) (by kernel_rfl) _ _ _ _ RP2.out Try.underlying26 rfl IP.out ?_)
    | (go_at_call 11; (refine (TH.out _).mono ?_); rintro e w3 ⟨rfl, BB⟩
       have HB3 := Lib.hid (HB2.out.trans (BB.mono HB2.out.size))
       have RP3 := Lib.hid ((BB.block _ (lt_of_rowI RP2.out)).trans RP2.out)
       clear BB)
    | (go_at_call 20; (refine (RC.out w3 HB3.out).mono ?_); rintro e w4 ⟨A4, n4, c4, rfl, O4, BB⟩
       have HB4 := Lib.hid (HB3.out.trans (BB.mono HB3.out.size))
       have RP4 := Lib.hid ((BB.block _ (lt_of_rowI RP3.out)).trans RP3.out)
       have HO4 := Lib.hid O4
       clear BB O4)
    | (refine wpList_store_row rfl 36 (.tmp 7) (.tmp 23) rfl w4.heap.size _ rfl rfl _ _ (heap_alloc_new _ _) (IXC.out A4 n4 c4) (SX.out mR A4 n4 c4) (OX.out A4 n4 c4) ?_; rw [World.setRow_alloc_new]))
  have R7 := Lib.hid (heap_alloc_new w4 (.cells (msV mR A4 n4 c4) 36))
  have B5 := alloc_below w4 (.cells (msV mR A4 n4 c4) 36)
  have HB5 := Lib.hid (HB4.out.trans (B5.mono HB4.out.size))
  have RP5 := Lib.hid ((B5.block _ (lt_of_rowI RP4.out)).trans RP4.out)
  have HO5 := Lib.hid (HO4.out.below B5)
  clear B5 HO4 RP4 HB4 RC TH FA hzc q3 q3b RP3 HB3 RP2 HB2 RP HB
  obtain ⟨w5, hw5⟩ : ∃ q, q = w4.alloc (.cells (msV mR A4 n4 c4) 36) := ⟨_, rfl⟩
  simp only [← hw5] at R7 HB5 RP5 HO5 ⊢
  clear hw5
  generalize w4.heap.size = g7 at *
  go_upto_region 5 with (first
    | (refine wpList_load_rowG (by kernel_rfl) 26 (.tmp 3) rfl (w.heap.size) (by kernel_rfl) _ _ _ _ RP5.out Try.underlying26 rfl IP.out ?_)
    | (go_at_call 21; (refine (RR.out w5 HB5.out).mono ?_); rintro e w6 ⟨A6, n6, c6, rfl, O6, BB⟩
       have HB6 := Lib.hid (HB5.out.trans (BB.mono HB5.out.size))
       have RP6 := Lib.hid ((BB.block _ (lt_of_rowI RP5.out)).trans RP5.out)
       have R76 := Lib.hid ((BB.block _ (lt_of_rowI R7.out)).trans R7.out)
       have HO6 := Lib.hid O6
       have HO56 := Lib.hid (HO5.out.below BB)
       clear BB O6)
    | (refine wpList_store_row rfl 26 (.tmp 9) (.tmp 28) rfl w6.heap.size _ rfl rfl _ _ (heap_alloc_new _ _) (IXM.out A6 n6 c6) (SX.out mR A6 n6 c6) (OX.out A6 n6 c6) ?_; rw [World.setRow_alloc_new]))
  have R9 := Lib.hid (heap_alloc_new w6 (.cells (msV mR A6 n6 c6) 26))
  have B5 := alloc_below w6 (.cells (msV mR A6 n6 c6) 26)
  have HBr := Lib.hid (HB6.out.trans (B5.mono HB6.out.size))
  have RPr := Lib.hid ((B5.block _ (lt_of_rowI RP6.out)).trans RP6.out)
  have R7r := Lib.hid ((B5.block _ (lt_of_rowI R76.out)).trans R76.out)
  have HOa := Lib.hid (HO56.out.below B5)
  have HOb := Lib.hid (HO6.out.below B5)
  clear B5 HO56 HO6 HO5 R7 R76 RP5 RP6 HB5 HB6 RR hzm SX OX
  obtain ⟨Wr, hWr⟩ : ∃ q, q = w6.alloc (.cells (msV mR A6 n6 c6) 26) := ⟨_, rfl⟩
  simp only [← hWr] at R9 HBr RPr R7r HOa HOb ⊢
  clear hWr
  generalize w6.heap.size = g9 at *
  have IX := Lib.hid (IXC.out A4 n4 c4)
  have IY := Lib.hid (IXM.out A6 n6 c6)
  have OU := Lib.hid (fun w' => ours_any mR A4 n4 c4 w')
  have SM := Lib.hid (fun (w' : World) (h : Gr Wr w') => (show Calls Try.prog 16 #[.agg (msV mR A4 n4 c4), .agg (msV mR A6 n6 c6)] w' (Ret w' (.bool true)) by
    have h9 := rsame_any mR mR A4 A6 n4 c4 n6 c6 XD XD w' (HOa.out.below h).nums (HOb.out.below h).nums YX.out YX.out
    rw [sameM_self] at h9
    exact h9))
  have TG := Lib.hid (fun (w' : World) (h : Gr Wr w') => (show Below w.heap.size w w' from HBr.out.trans (Below.mono h HBr.out.size)))
  have ALX := Lib.hid (fun (w' : World) (h : Gr Wr w') => AL.out w' (TG.out w' h))
  have AC := Lib.hid (fun (w' : World) (h : Gr Wr w') => AC0.out w' (TG.out w' h))
  have AR := Lib.hid (fun (w' : World) (h : Gr Wr w') => AR0.out w' (TG.out w' h))
  have K7 := Lib.hid (fun (w' : World) (h : Gr Wr w') => (Below.block h _ (lt_of_rowI R7r.out)).trans R7r.out)
  have K9 := Lib.hid (fun (w' : World) (h : Gr Wr w') => (Below.block h _ (lt_of_rowI R9.out)).trans R9.out)
  have K3 := Lib.hid (fun (w' : World) (h : Gr Wr w') => KI0.out w' ((Below.block h _ (lt_of_rowI RPr.out)).trans RPr.out))
  generalize msV mR A4 n4 c4 = CX at *
  generalize msV mR A6 n6 c6 = CY at *
  clear R7r R9 RPr HOa HOb IXC IXM YX AL AC0 AR0 TG KI0
  refine with_act fun a0 ha0 => ?_
  have hl : wuT.length = a0.tmps.size := by rw [ha0]; rfl
  have k3 : a0.tmps[3]?.getD undef = .pointer (some ⟨(w.heap.size), 0, none⟩) := by rw [ha0]; rfl
  have k7 : a0.tmps[7]?.getD undef = .pointer (some ⟨g7, 0, none⟩) := by rw [ha0]; rfl
  have k9 : a0.tmps[9]?.getD undef = .pointer (some ⟨g9, 0, none⟩) := by rw [ha0]; rfl
  have k8 : a0.tmps[8]?.getD undef = .bool rb := by rw [ha0]; rfl
  have k10 : a0.tmps[10]?.getD undef = .bool rb := by rw [ha0]; rfl
  have k1 : a0.tmps[1]?.getD undef = .slice AP np cp := by rw [ha0]; rfl
  have k2 : a0.tmps[2]?.getD undef = .bool six := by rw [ha0]; rfl
  refine wp_region_vals (by kernel_rfl) wuT (by kernel_rfl) (by kernel_rfl) hl (fun i => if i = 26 then .bool false else undef) (by rw [ha0]; rfl) (Gr Wr) (wuV (w.heap.size) g7 g9 CX CY rb six k AP np cp mB YD (Wr.heap.size)) (show Gr _ _ from (Below.refl _ _).drew) (wuV.keep _ _ _ _ _ _ _ _ _ _ _ _ _ _) ⟨?_, ?_, ?_, ?_, ?_, ?_, ?_, ?_, ?_, ?_, ?_, ?_, ?_, ?_, ?_, ?_, ?_, ?_, ?_, ?_, ?_, ?_, ?_, ?_, ?_, ?_, ?_, trivial⟩ ?_
  · refine step_plain [] (by kernel_rfl) rfl fun us w' hG hV => ?_
    have o7 := (frame_old2 (us := us) (a := a0) (show (wuT[7]?).join = none from rfl)).trans k7
    have hg1 := (K7.out w' hG)
    generalize frame wuT a0 us = fr at *
    exact load_ok 36 7 rfl (g7) o7 _ _ (0, 0) _ hg1 Try.underlying36 rfl IX.out hG rfl
  · refine step_plain [0] (by kernel_rfl) rfl fun us w' hG hV => ?_
    have e0 : us 0 = .agg CX := hV 0 (by simp)
    have v0 := (frame_at2 (us := us) hl (show (wuT[30]?).join = some 0 from rfl)).trans e0
    generalize frame wuT a0 us = fr at *
    exact call_ok (f := 19) (args := #[.agg CX]) (by go_simp) ((OU.out w').mono fun e w'' h => ⟨_, h.1, hG.below h.2, h.2, rfl⟩)
  · refine step_plain [] (by kernel_rfl) rfl fun us w' hG hV => ?_
    have o9 := (frame_old2 (us := us) (a := a0) (show (wuT[9]?).join = none from rfl)).trans k9
    have hg1 := (K9.out w' hG)
    generalize frame wuT a0 us = fr at *
    exact load_ok 26 9 rfl (g9) o9 _ _ (0, 0) _ hg1 Try.underlying26 rfl IY.out hG rfl
  · refine step_plain [1, 2] (by kernel_rfl) rfl fun us w' hG hV => ?_
    have e1 : us 1 = .agg CX := hV 1 (by simp)
    have v1 := (frame_at2 (us := us) hl (show (wuT[31]?).join = some 1 from rfl)).trans e1
    have e2 : us 2 = .agg CY := hV 2 (by simp)
    have v2 := (frame_at2 (us := us) hl (show (wuT[32]?).join = some 2 from rfl)).trans e2
    generalize frame wuT a0 us = fr at *
    exact call_ok (f := 16) (args := #[.agg CX, .agg CY]) (by go_simp) ((SM.out w' hG).mono fun e w'' h => ⟨_, h.1, hG.below h.2, h.2, rfl⟩)
  · refine step_plain [3] (by kernel_rfl) rfl fun us w' hG hV => ?_
    have e3 : us 3 = .bool true := hV 3 (by simp)
    have v3 := (frame_at2 (us := us) hl (show (wuT[33]?).join = some 3 from rfl)).trans e3
    generalize frame wuT a0 us = fr at *
    exact val_ok (v := .bool true) (w' := w') (by go_simp) hG (Below.refl _ _) rfl
  · refine step_guard [4] (by kernel_rfl) (j := 4) (t := 34) (b := true) rfl (by simp) rfl hl rfl (fun v w h => h) fun us w' hG hV => ?_
    have o8 := (frame_old2 (us := us) (a := a0) (show (wuT[8]?).join = none from rfl)).trans k8
    generalize frame wuT a0 us = fr at *
    exact val_ok (v := .bool rb) (w' := w') (by go_simp) hG (Below.refl _ _) rfl
  · refine step_guard [4] (by kernel_rfl) (j := 4) (t := 34) (b := true) rfl (by simp) rfl hl rfl (fun v w h => h) fun us w' hG hV => ?_
    have o10 := (frame_old2 (us := us) (a := a0) (show (wuT[10]?).join = none from rfl)).trans k10
    generalize frame wuT a0 us = fr at *
    exact val_ok (v := .bool rb) (w' := w') (by go_simp) hG (Below.refl _ _) rfl
  · refine step_guard [4, 5, 6] (by kernel_rfl) (j := 4) (t := 34) (b := true) rfl (by simp) rfl hl rfl (fun v w h => h) fun us w' hG hV => ?_
    have e5 : us 5 = .bool rb := hV 5 (by simp)
    have v5 := (frame_at2 (us := us) hl (show (wuT[35]?).join = some 5 from rfl)).trans e5
    have e6 : us 6 = .bool rb := hV 6 (by simp)
    have v6 := (frame_at2 (us := us) hl (show (wuT[36]?).join = some 6 from rfl)).trans e6
    generalize frame wuT a0 us = fr at *
    exact val_ok (v := .bool true) (w' := w') (by go_simp) hG (Below.refl _ _) rfl
  · refine step_plain [4, 7] (by kernel_rfl) rfl fun us w' hG hV => ?_
    have e4 : us 4 = .bool true := hV 4 (by simp)
    have v4 := (frame_at2 (us := us) hl (show (wuT[34]?).join = some 4 from rfl)).trans e4
    have e7 : us 7 = .bool true := hV 7 (by simp)
    have v7 := (frame_at2 (us := us) hl (show (wuT[37]?).join = some 7 from rfl)).trans e7
    generalize frame wuT a0 us = fr at *
    exact val_ok (v := .bool true) (w' := w') (by go_simp) hG (Below.refl _ _) rfl
  · refine step_plain [8] (by kernel_rfl) rfl fun us w' hG hV => ?_
    have e8 : us 8 = .bool true := hV 8 (by simp)
    have v8 := (frame_at2 (us := us) hl (show (wuT[38]?).join = some 8 from rfl)).trans e8
    generalize frame wuT a0 us = fr at *
    exact val_ok (v := .bool true) (w' := w') (by go_simp) hG (Below.refl _ _) rfl
  · refine step_guard [9] (by kernel_rfl) (j := 9) (t := 39) (b := true) rfl (by simp) rfl hl rfl (fun v w h => h) fun us w' hG hV => ?_
    have o3 := (frame_old2 (us := us) (a := a0) (show (wuT[3]?).join = none from rfl)).trans k3
    generalize frame wuT a0 us = fr at *
    exact val_ok (v := .pointer (some ⟨(w.heap.size), 0, none⟩)) (w' := w') (by go_simp) hG (Below.refl _ _) rfl
  · refine step_guard [9, 10] (by kernel_rfl) (j := 9) (t := 39) (b := true) rfl (by simp) rfl hl rfl (fun v w h => h) fun us w' hG hV => ?_
    have e10 : us 10 = .pointer (some ⟨(w.heap.size), 0, none⟩) := hV 10 (by simp)
    have v10 := (frame_at2 (us := us) hl (show (wuT[40]?).join = some 10 from rfl)).trans e10
    have hc := K3.out w' hG
    generalize frame wuT a0 us = fr at *
    exact val_ok (v := .int .i64 k) (w' := w') (by go_simp) hG (Below.refl _ _) rfl
  · refine step_guard [9] (by kernel_rfl) (j := 9) (t := 39) (b := true) rfl (by simp) rfl hl rfl (fun v w h => h) fun us w' hG hV => ?_
    have o1 := (frame_old2 (us := us) (a := a0) (show (wuT[1]?).join = none from rfl)).trans k1
    generalize frame wuT a0 us = fr at *
    exact val_ok (v := .slice AP np cp) (w' := w') (by go_simp) hG (Below.refl _ _) rfl
  · refine step_guard [9] (by kernel_rfl) (j := 9) (t := 39) (b := true) rfl (by simp) rfl hl rfl (fun v w h => h) fun us w' hG hV => ?_
    have o2 := (frame_old2 (us := us) (a := a0) (show (wuT[2]?).join = none from rfl)).trans k2
    generalize frame wuT a0 us = fr at *
    exact val_ok (v := .bool six) (w' := w') (by go_simp) hG (Below.refl _ _) rfl
  · refine step_guard [9, 11, 12, 13] (by kernel_rfl) (j := 9) (t := 39) (b := true) rfl (by simp) rfl hl rfl (fun v w h => h) fun us w' hG hV => ?_
    have e11 : us 11 = .int .i64 k := hV 11 (by simp)
    have v11 := (frame_at2 (us := us) hl (show (wuT[41]?).join = some 11 from rfl)).trans e11
    have e12 : us 12 = .slice AP np cp := hV 12 (by simp)
    have v12 := (frame_at2 (us := us) hl (show (wuT[42]?).join = some 12 from rfl)).trans e12
    have e13 : us 13 = .bool six := hV 13 (by simp)
    have v13 := (frame_at2 (us := us) hl (show (wuT[43]?).join = some 13 from rfl)).trans e13
    generalize frame wuT a0 us = fr at *
    exact call_ok (f := 22) (args := #[.int .i64 k, .slice AP np cp, .bool six]) (by go_simp) ((AC.out w' hG).mono fun e w'' ⟨A', n', c', h1, h2, h3⟩ => ⟨_, h1, hG.below h3, h3, A', n', c', rfl, h2.less hG.size⟩)
  · refine step_guard [9, 14] (by kernel_rfl) (j := 9) (t := 39) (b := true) rfl (by simp) rfl hl rfl (fun v w h => h) fun us w' hG hV => ?_
    obtain ⟨A14, n14, c14, e14, O14⟩ := (show ∃ A' n' c', us 14 = .agg (msV mB A' n' c') ∧ Own .u8 5 w' (Wr.heap.size) (.slice A' n' c') YD from hV 14 (by simp))
    have v14 := (frame_at2 (us := us) hl (show (wuT[44]?).join = some 14 from rfl)).trans e14
    generalize frame wuT a0 us = fr at *
    exact call_ok (f := 19) (args := #[.agg (msV mB A14 n14 c14)]) (by go_simp) ((ours_any mB A14 n14 c14 w').mono fun e w'' h => ⟨_, h.1, hG.below h.2, h.2, A14, n14, c14, rfl, O14.below h.2⟩)
  · refine step_guard [9] (by kernel_rfl) (j := 9) (t := 39) (b := true) rfl (by simp) rfl hl rfl (fun v w h => h) fun us w' hG hV => ?_
    have o3 := (frame_old2 (us := us) (a := a0) (show (wuT[3]?).join = none from rfl)).trans k3
    generalize frame wuT a0 us = fr at *
    exact val_ok (v := .pointer (some ⟨(w.heap.size), 0, none⟩)) (w' := w') (by go_simp) hG (Below.refl _ _) rfl
  · refine step_guard [9, 16] (by kernel_rfl) (j := 9) (t := 39) (b := true) rfl (by simp) rfl hl rfl (fun v w h => h) fun us w' hG hV => ?_
    have e16 : us 16 = .pointer (some ⟨(w.heap.size), 0, none⟩) := hV 16 (by simp)
    have v16 := (frame_at2 (us := us) hl (show (wuT[46]?).join = some 16 from rfl)).trans e16
    have hc := K3.out w' hG
    generalize frame wuT a0 us = fr at *
    exact val_ok (v := .int .i64 k) (w' := w') (by go_simp) hG (Below.refl _ _) rfl
  · refine step_guard [9] (by kernel_rfl) (j := 9) (t := 39) (b := true) rfl (by simp) rfl hl rfl (fun v w h => h) fun us w' hG hV => ?_
    have o1 := (frame_old2 (us := us) (a := a0) (show (wuT[1]?).join = none from rfl)).trans k1
    generalize frame wuT a0 us = fr at *
    exact val_ok (v := .slice AP np cp) (w' := w') (by go_simp) hG (Below.refl _ _) rfl
  · refine step_guard [9] (by kernel_rfl) (j := 9) (t := 39) (b := true) rfl (by simp) rfl hl rfl (fun v w h => h) fun us w' hG hV => ?_
    have o2 := (frame_old2 (us := us) (a := a0) (show (wuT[2]?).join = none from rfl)).trans k2
    generalize frame wuT a0 us = fr at *
    exact val_ok (v := .bool six) (w' := w') (by go_simp) hG (Below.refl _ _) rfl
  · refine step_guard [9, 17, 18, 19] (by kernel_rfl) (j := 9) (t := 39) (b := true) rfl (by simp) rfl hl rfl (fun v w h => h) fun us w' hG hV => ?_
    have e17 : us 17 = .int .i64 k := hV 17 (by simp)
    have v17 := (frame_at2 (us := us) hl (show (wuT[47]?).join = some 17 from rfl)).trans e17
    have e18 : us 18 = .slice AP np cp := hV 18 (by simp)
    have v18 := (frame_at2 (us := us) hl (show (wuT[48]?).join = some 18 from rfl)).trans e18
    have e19 : us 19 = .bool six := hV 19 (by simp)
    have v19 := (frame_at2 (us := us) hl (show (wuT[49]?).join = some 19 from rfl)).trans e19
    generalize frame wuT a0 us = fr at *
    exact call_ok (f := 23) (args := #[.int .i64 k, .slice AP np cp, .bool six]) (by go_simp) ((AR.out w' hG).mono fun e w'' ⟨A', n', c', h1, h2, h3⟩ => ⟨_, h1, hG.below h3, h3, A', n', c', rfl, h2.less hG.size⟩)
  · refine step_guard [9, 15, 20] (by kernel_rfl) (j := 9) (t := 39) (b := true) rfl (by simp) rfl hl rfl (fun v w h => h) fun us w' hG hV => ?_
    obtain ⟨A15, n15, c15, e15, O15⟩ := (show ∃ A' n' c', us 15 = .agg (msV mB A' n' c') ∧ Own .u8 5 w' (Wr.heap.size) (.slice A' n' c') YD from hV 15 (by simp))
    have v15 := (frame_at2 (us := us) hl (show (wuT[45]?).join = some 15 from rfl)).trans e15
    obtain ⟨A20, n20, c20, e20, O20⟩ := (show ∃ A' n' c', us 20 = .agg (msV mB A' n' c') ∧ Own .u8 5 w' (Wr.heap.size) (.slice A' n' c') YD from hV 20 (by simp))
    have v20 := (frame_at2 (us := us) hl (show (wuT[50]?).join = some 20 from rfl)).trans e20
    generalize frame wuT a0 us = fr at *
    exact call_ok (f := 16) (args := #[.agg (msV mB A15 n15 c15), .agg (msV mB A20 n20 c20)]) (by go_simp) ((SB.out w' A15 A20 n15 c15 n20 c20 O15.nums O20.nums).mono fun e w'' h => ⟨_, h.1, hG.below h.2, h.2, rfl⟩)
  · refine step_plain [9, 21] (by kernel_rfl) rfl fun us w' hG hV => ?_
    have e9 : us 9 = .bool true := hV 9 (by simp)
    have v9 := (frame_at2 (us := us) hl (show (wuT[39]?).join = some 9 from rfl)).trans e9
    have e21 : us 21 = .bool true := hV 21 (by simp)
    have v21 := (frame_at2 (us := us) hl (show (wuT[51]?).join = some 21 from rfl)).trans e21
    generalize frame wuT a0 us = fr at *
    exact val_ok (v := .bool true) (w' := w') (by go_simp) hG (Below.refl _ _) rfl
  · refine step_plain [22] (by kernel_rfl) rfl fun us w' hG hV => ?_
    have e22 : us 22 = .bool true := hV 22 (by simp)
    have v22 := (frame_at2 (us := us) hl (show (wuT[52]?).join = some 22 from rfl)).trans e22
    generalize frame wuT a0 us = fr at *
    exact val_ok (v := .bool true) (w' := w') (by go_simp) hG (Below.refl _ _) rfl
  · refine step_guard [23] (by kernel_rfl) (j := 23) (t := 53) (b := true) rfl (by simp) rfl hl rfl (fun v w h => h) fun us w' hG hV => ?_
    generalize frame wuT a0 us = fr at *
    exact call_ok (f := 9) (args := #[]) (by go_simp) ((ALX.out w' hG).mono fun e w'' h => ⟨_, h.1, hG.below h.2, h.2, rfl⟩)
  · refine step_plain [23, 24] (by kernel_rfl) rfl fun us w' hG hV => ?_
    have e23 : us 23 = .bool true := hV 23 (by simp)
    have v23 := (frame_at2 (us := us) hl (show (wuT[53]?).join = some 23 from rfl)).trans e23
    have e24 : us 24 = .bool true := hV 24 (by simp)
    have v24 := (frame_at2 (us := us) hl (show (wuT[54]?).join = some 24 from rfl)).trans e24
    generalize frame wuT a0 us = fr at *
    exact val_ok (v := .bool true) (w' := w') (by go_simp) hG (Below.refl _ _) rfl
  · refine step_plain [25] (by kernel_rfl) rfl fun us w' hG hV => ?_
    have e25 : us 25 = .bool true := hV 25 (by simp)
    have v25 := (frame_at2 (us := us) hl (show (wuT[55]?).join = some 25 from rfl)).trans e25
    generalize frame wuT a0 us = fr at *
    exact val_ok (v := .bool true) (w' := w') (by go_simp) hG (Below.refl _ _) rfl
  · intro us w5 hG hV
    have e8 : us 26 = .bool true := hV 26 (by decide)
    subst ha0
    simp only [frame, wuT, fill]
    rw [e8]
    have HG3 := Lib.hid hG
    clear hV hl hG k1 k2 k3 k7 k8 k9 k10 e8
    go_wp2_with fail
    go_ret
    exact ⟨rfl, HBr.out.trans (Below.mono HG3.out HBr.out.size)⟩
end Go.Proofs.Ytmbfgolcinniiaa.icC
