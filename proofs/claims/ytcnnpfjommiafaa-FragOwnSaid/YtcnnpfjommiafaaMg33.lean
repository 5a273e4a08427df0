/-
  4 texts of a proof, joined.
-/
import Derived.Test.YtcnnpfjommiafaaMg32
import Derived.Deep.OwnRows
import Derived.Maps.OwnSet
import Derived.Maps.Views

/-
  Steps in a row; how many bytes they have: the laws' short and far.
-/
namespace Go.Proofs.Ytcnnpfjommiafaa.fgC
open Go.ChangeShapes Go.WideShapes Go.ChangeAt Go.RowKit
open Go.Proofs.Ytcnnpfjommiafaa.memC Go.Proofs.Ytcnnpfjommiafaa.genC Go.Proofs.Ytcnnpfjommiafaa.butC Go.Proofs.Ytcnnpfjommiafaa.freeC Go.Proofs.Ytcnnpfjommiafaa.adC
open Go.Proofs.Ytcnnpfjommiafaa.pkC (Pkt pktL pktV)
set_option linter.unusedVariables false
/-- a step: one call -/
structure Se where
  ov : Bool
  lt : Int
  e : Pe
structure Se.Ok (s : Se) : Prop where
  lt : -9223372036854775808 ≤ s.lt ∧ s.lt ≤ 9223372036854775807
  e : s.e.Ok
def Se.cells (s : Se) : List Value := .bool s.ov :: .int .i64 s.lt :: s.e.cells
theorem Se.cells_len {s : Se} (h : s.Ok) : s.cells.length = 43 := by unfold Se.cells; simp [Pe.cells_len h.e.p]
theorem Se.one {s : Se} : ∀ u ∈ s.cells, u.oneCell' = true := by
  intro u hu
  unfold Se.cells at hu
  rcases List.mem_cons.1 hu with rfl | hu
  · rfl
  · rcases List.mem_cons.1 hu with rfl | hu
    · rfl
    · exact Pe.one u hu
/-- the slice at A, of n steps, lies below block B -/
structure RowS (w : World) (B : Nat) (A : Option Addr) (n : Nat) (ss : List Se) : Prop where
  len : ss.length = n
  at_ : 0 < n → ∃ b o, A = some ⟨b, o, none⟩ ∧ b < B ∧ ∀ i s, ss[i]? = some s → ∀ j v, s.cells[j]? = some v → w.cell? ⟨b, o + i * 43 + j, none⟩ = some v
structure SksE (w : World) (B : Nat) (A : Option Addr) (n : Nat) (ss : List Se) : Prop where
  row : RowS w B A n ss
  ld : ∀ s ∈ ss, Ld w B s.e
  ok : ∀ s ∈ ss, s.Ok
theorem RowS.below {w w' : World} {B B' : Nat} {A : Option Addr} {n : Nat} {ss : List Se} (h : RowS w B A n ss) (hb : Below B w w') (hB : B ≤ B') : RowS w' B' A n ss :=
  ⟨h.len, fun hn => by
    obtain ⟨b, o, e, hlt, hc⟩ := h.at_ hn
    exact ⟨b, o, e, by omega, fun i f hf j v hv => (hb.cell (p := ⟨b, o + i * 43 + j, none⟩) hlt).trans (hc i f hf j v hv)⟩⟩
theorem SksE.below {w w' : World} {B B' : Nat} {A : Option Addr} {n : Nat} {ss : List Se} (h : SksE w B A n ss) (hb : Below B w w') (hB : B ≤ B') : SksE w' B' A n ss := ⟨h.row.below hb hB, fun e he => (h.ld e he).below hb hB, h.ok⟩
theorem RowS.upto {w : World} {B : Nat} {A : Option Addr} {n : Nat} {ss : List Se} (h : RowS w B A n ss) {m : Nat} (hm : m ≤ n) : RowS w B A m (ss.take m) := by
  refine ⟨by rw [List.length_take, h.len]; omega, fun h0 => ?_⟩
  obtain ⟨b, o, e, hb, hc⟩ := h.at_ (by omega)
  refine ⟨b, o, e, hb, fun i s hs => ?_⟩
  rw [List.getElem?_take] at hs
  split at hs
  · exact hc i s hs
  · cases hs
theorem SksE.upto {w : World} {B : Nat} {A : Option Addr} {n : Nat} {ss : List Se} (h : SksE w B A n ss) {m : Nat} (hm : m ≤ n) : SksE w B A m (ss.take m) := ⟨h.row.upto hm, fun s hs => h.ld s (List.mem_of_mem_take hs), fun s hs => h.ok s (List.mem_of_mem_take hs)⟩
theorem cut_headS (A : Option Addr) (n c k : Nat) (h : k ≤ c) (w : World) : (Instr.slice 49 (.slice A n c) none (some (.int .i64 (k : Int))) none).run Try.prog w = .ok (.slice A k c) w := by
  have k1 : (k : Int) ≤ (c : Int) := by omega
  have k2 : (0 : Int) ≤ (k : Int) := by omega
  go_simp
theorem short_any (A : Option Addr) (n c : Nat) (w : World) (h : n ≤ c) : Calls Try.prog 16 #[.slice A n c] w fun e w' => e = .returned (.slice A (min n 100) c) ∧ w' = w := by
  have hm : (if (100 : Int) < (n : Int) then (100 : Int) else (n : Int)) = ((min n 100 : Nat) : Int) := by split <;> omega
  have sc := cut_headS A n c (min n 100) (by omega) w
  generalize min n 100 = m at *
  go_enter Try.func16, Try.ntmps16
  go_wp2_with fail
  go_ret
  exact ⟨rfl, rfl⟩
/-- how many bytes some steps have -/
def farN (ss : List Se) : Nat := (ss.map fun s => min s.e.n 70000).sum
theorem farN_take {ss : List Se} {i : Nat} {s : Se} (h : ss[i]? = some s) : farN (ss.take (i + 1)) = farN (ss.take i) + min s.e.n 70000 := by
  unfold farN
  rw [List.take_add_one, h]
  simp
theorem farN_le : ∀ (ss : List Se), farN ss ≤ ss.length * 70000
  | [] => Nat.zero_le _
  | s :: r => by
    have := farN_le r
    unfold farN at this ⊢
    rw [List.map_cons, List.sum_cons, List.length_cons, Nat.succ_mul]
    omega
theorem step_info : (Try.prog.info? 53).map (·.size) = some 43 := by kernel_rfl
theorem zStep_info : (Try.prog.info? 53).map (·.zero) = some (some (.agg (Se.cells ⟨false, 0, ⟨zPkt, none, 0, 0, []⟩⟩).toArray)) := by kernel_rfl
theorem zeroStep (w : World) : (zeroValue 53).run Try.prog w = .ok (.agg (Se.cells ⟨false, 0, ⟨zPkt, none, 0, 0, []⟩⟩).toArray) w := by
  obtain ⟨i, hi, hz⟩ := Option.map_eq_some_iff.1 zStep_info
  simp [zeroValue, typeInfo, hi, hz]
theorem Se.size {s : Se} (h : s.Ok) : (Try.prog.info? 53).map (·.size) = some s.cells.toArray.size := by rw [step_info]; simp [Se.cells_len h]
theorem Se.ones (s : Se) : s.cells.toArray.all (·.oneCell') = true := by
  rw [List.all_toArray]
  exact List.all_eq_true.2 Se.one
theorem Se.load {s : Se} (h : s.Ok) : s.cells[42]? = some (.slice s.e.A s.e.n s.e.c) := by
  have h9 := (pkC.pkC h.e.p s.e.A s.e.n s.e.c).load
  unfold pktV at h9
  rw [List.getElem?_toArray] at h9
  exact h9
theorem Se.pkt {s : Se} (j : Nat) (v : Value) (h : s.e.cells[j]? = some v) : s.cells[2 + j]? = some v := by
  rw [Nat.add_comm]; exact h
set_option maxRecDepth 100000 in
set_option maxHeartbeats 4000000 in
theorem far_any (A : Option Addr) (n c : Nat) (ss : List Se) (w : World) (h : SksE w w.heap.size A n ss) (hnc : n ≤ c) : Calls Try.prog 15 #[.slice A n c] w (Ret w (.bool (decide (70000 < farN (ss.take 100))))) := by
  have HP := Lib.hid (h.upto (Nat.min_le_left n 100))
  have e100 : ss.take (min n 100) = ss.take 100 := by
    rcases Nat.le_total n 100 with q | q
    · rw [Nat.min_eq_left q, List.take_of_length_le (by rw [h.row.len]; exact Nat.le_refl _), List.take_of_length_le (by rw [h.row.len]; exact q)]
    · rw [Nat.min_eq_right q]
  rw [e100] at HP
  have SA := Lib.hid (fun w' => short_any A n c w' hnc)
  have HM := Lib.hid (show min n 100 ≤ 100 from Nat.min_le_right _ _)
  generalize ss.take 100 = ts at *
  generalize min n 100 = m at *
  have hzv := zeroStep
  generalize (Se.cells ⟨false, 0, ⟨zPkt, none, 0, 0, []⟩⟩).toArray = ZS at *
  have hZS : ZS.size = 43 := by
    have h1 := hzv w
    obtain ⟨i, hi, hz⟩ := Option.map_eq_some_iff.1 zStep_info
    have : (Value.agg ZS) = .agg (Se.cells ⟨false, 0, ⟨zPkt, none, 0, 0, []⟩⟩).toArray := by
      have h2 := zeroStep w
      rw [h1] at h2
      injection h2
    injection this with this
    rw [this]; rfl
  have HZ := Lib.hid hZS
  have HZV := Lib.hid hzv
  have HT := Lib.hid (farN_le ts)
  clear h e100 hZS hzv hnc
  obtain ⟨V, hV⟩ : ∃ V, V = decide (70000 < farN ts) := ⟨_, rfl⟩
  rw [← hV]
  have HV := Lib.hid hV
  clear hV
  go_enter Try.func15, Try.ntmps15
  go_upto_region 3 with (first
    | (go_at_call 16; (refine (SA.out _).mono ?_); rintro e w2 ⟨rfl, hw⟩; obtain rfl := hw.symm))
  go_loopw [3, 9] (fun u v wr => ∃ i : Nat, i ≤ m ∧ v = .int .i64 i ∧ u = .int .i64 (farN (ts.take i) : Nat) ∧ Below w.heap.size w wr) (fun u v _ => m - (intOf v).toNat)
  case atStart => exact ⟨0, by omega, rfl, rfl, Below.refl _ _⟩
  case round =>
    obtain ⟨i, hi, rfl, rfl, BW⟩ := hrel
    have HBW := Lib.hid BW
    by_cases hlt : i < m
    rotate_left
    · have q6 : ¬ (i : Int) < (m : Int) := by omega
      have hend : ts.take i = ts := List.take_of_length_le (by rw [HP.out.row.len]; omega)
      rw [hend]
      obtain ⟨T, hT⟩ : ∃ T, T = farN ts := ⟨_, rfl⟩
      rw [← hT]
      have hq : decide ((T : Int) > 70000) = V := by rw [HV.out, ← hT]; exact decide_eq_decide.2 ⟨fun h => by omega, fun h => by omega⟩
      have hq2 : decide (70000 < T) = V := by rw [HV.out, ← hT]
      clear hlt hi BW hend hT
      go_wp2_with fail
      go_ret
      exact ⟨rfl, HBW.out⟩
    have q6 : (i : Int) < (m : Int) := by omega
    have hl1 := HP.out.row.len
    obtain ⟨s, hsi⟩ : ∃ s, ts[i]? = some s := ⟨ts[i]'(by omega), List.getElem?_eq_getElem _⟩
    obtain ⟨b1, o1, hA1, hb1, c1⟩ := HP.out.row.at_ (by omega)
    have ms := List.mem_of_getElem? hsi
    have os := HP.out.ok s ms
    have C1 := Lib.hid (show ∀ j v, s.cells[j]? = some v → wr.cell? ⟨b1, o1 + i * 43 + j, none⟩ = some v from fun j v hv => (BW.cell (p := ⟨b1, o1 + i * 43 + j, none⟩) hb1).trans (c1 i s hsi j v hv))
    have IS := Lib.hid (show (Try.prog.info? 53).map (·.size) = some s.cells.length by rw [Se.cells_len os]; exact step_info)
    have IS2 := Lib.hid (Se.size os)
    have ZSZ := Lib.hid (show ZS.size = s.cells.toArray.size by rw [HZ.out]; simp [Se.cells_len os])
    have OS := Lib.hid (Se.ones s)
    have p42 := Lib.hid (show ∀ (w' : World) (g : Nat), w'.heap[g]? = some (.cells s.cells.toArray 53 (0, 0)) → w'.cell? ⟨g, 42, none⟩ = some (.slice s.e.A s.e.n s.e.c) from fun w' g hr => pkC.PkC.cell hr (by rw [List.getElem?_toArray]; exact Se.load os))
    have FT := Lib.hid (farN_take hsi)
    have hm : (if (70000 : Int) < (s.e.n : Int) then (70000 : Int) else (s.e.n : Int)) = ((min s.e.n 70000 : Nat) : Int) := by split <;> omega
    obtain ⟨T0, hT0⟩ : ∃ T, T = farN (ts.take i) := ⟨_, rfl⟩
    rw [← hT0] at FT ⊢
    have TB : farN (ts.take i) ≤ 100 * 70000 := by
      have h1 := farN_le (ts.take i)
      rw [List.length_take] at h1
      have := HM.out
      exact Nat.le_trans h1 (Nat.mul_le_mul_right _ (by omega))
    rw [← hT0] at TB
    obtain ⟨d, hd⟩ : ∃ d, d = min s.e.n 70000 := ⟨_, rfl⟩
    rw [← hd] at FT hm
    obtain ⟨T1, hT1⟩ : ∃ T, T = T0 + d := ⟨_, rfl⟩
    have hadd : (T0 : Int) + (d : Int) = (T1 : Int) := by omega
    have wT1 : IntKind.i64.wrap (T1 : Int) = (T1 : Int) := IntWalk.i64_in _ (by omega)
    rw [← hT1] at FT
    have wi : IntKind.i64.wrap ((i : Int) + 1) = (i : Int) + 1 := IntWalk.i64_in _ (by have := HM.out; omega)
    have HI := Lib.hid hlt
    have I1 : (i : Int) < (m : Int) := by omega
    have hzv := HZV.out
    subst hA1
    generalize hCS : s.cells = CS at *
    generalize s.e.A = A9 at *
    generalize s.e.n = n9 at *
    generalize s.e.c = c9 at *
    clear hsi c1 ms os hl1 hb1 hlt hi BW hT0 hd hT1 TB hCS
    go_upto_region 5 with (first
      | (refine pkC.wpList_load_partG (by kernel_rfl) 53 (.tmp 11) rfl b1 (o1 + i * 43) (by kernel_rfl) CS _ C1.out Try.underlying53 rfl IS.out ?_)
      | (refine wpList_store_row rfl 53 (.tmp 5) (.tmp 12) rfl wr.heap.size CS.toArray rfl rfl _ _ (heap_alloc_new _ _) IS2.out ZSZ.out OS.out ?_; rw [World.setRow_alloc_new]))
    have cl := p42.out _ _ (heap_alloc_new wr (.cells CS.toArray 53))
    have AB := Lib.hid (HBW.out.trans ((alloc_below wr (.cells CS.toArray 53)).mono HBW.out.size))
    generalize wr.alloc (.cells CS.toArray 53) = w2 at *
    generalize wr.heap.size = g at *
    clear hzv q6
    go_wp2_with fail
    go_roundw
    case rel => exact ⟨i + 1, by have := HI.out; omega, by go_num, by rw [FT.out], AB.out⟩
    case measure => have := HI.out; simp [intOf]; omega
end Go.Proofs.Ytcnnpfjommiafaa.fgC

/-
  The laws' sign that the program is there: a packet is cut, and comes together.
-/
namespace Go.Proofs.Ytcnnpfjommiafaa.fgC
open Go.ChangeShapes Go.WideShapes Go.ChangeAt Go.RowKit
open Go.Proofs.Ytcnnpfjommiafaa.memC Go.Proofs.Ytcnnpfjommiafaa.genC Go.Proofs.Ytcnnpfjommiafaa.butC Go.Proofs.Ytcnnpfjommiafaa.freeC Go.Proofs.Ytcnnpfjommiafaa.adC
open Go.Proofs.Ytcnnpfjommiafaa.pkC (Pkt pktL pktV pktT adrC)
set_option linter.unusedVariables false
/-- the packet that is tried -/
def aP : Pkt := { zPkt with proto := 6, id := 7 }
def aX : List Int := List.replicate 100 0
def aL : List Pc := cutL (aP, aX) 48 0
theorem aP_ok : aP.Ok := by
  refine ⟨rfl, rfl, ?_, ?_, ?_, ?_, ?_, ?_⟩
  · intro x hx; rw [List.eq_of_mem_replicate hx]; exact ⟨by decide, by decide⟩
  · intro x hx; rw [List.eq_of_mem_replicate hx]; exact ⟨by decide, by decide⟩
  all_goals (first | exact ⟨by decide, by decide⟩ | (show _ ∧ _; decide))
theorem aX_byte : ∀ x ∈ aX, Byte x := fun x hx => by rw [List.eq_of_mem_replicate hx]; exact ⟨by decide, by decide⟩
theorem aE : cutE (aP, aX) 48 = 0 := by kernel_rfl
theorem aLen : aL.length = 5 := by kernel_rfl
def aS : Nat → TSt
  | 0 => ⟨2, 0, []⟩
  | k + 1 => addT (aS k) 1 (aL.getD (4 - k) zPc)
theorem aS_step : ∀ k, k < 5 → addR (aS k) 1 (aL.getD (4 - k) zPc) = if k = 4 then ((aP, aX), true, 0) else (zPc, false, 0)
  | 0, _ => by kernel_rfl
  | 1, _ => by kernel_rfl
  | 2, _ => by kernel_rfl
  | 3, _ => by kernel_rfl
  | 4, _ => by kernel_rfl
  | k + 5, h => absurd h (by omega)
theorem aS_end : (aS 5).l.length = 0 := by kernel_rfl
theorem aSmall : ∀ k, k < 5 → (aL.getD (4 - k) zPc).2.length ≤ 70000
  | 0, _ => of_decide_eq_true (by kernel_rfl)
  | 1, _ => of_decide_eq_true (by kernel_rfl)
  | 2, _ => of_decide_eq_true (by kernel_rfl)
  | 3, _ => of_decide_eq_true (by kernel_rfl)
  | 4, _ => of_decide_eq_true (by kernel_rfl)
  | k + 5, h => absurd h (by omega)
theorem zPkt_okK : zPkt.Ok := by
  refine ⟨rfl, rfl, ?_, ?_, ?_, ?_, ?_, ?_⟩
  · intro x hx; rw [List.eq_of_mem_replicate hx]; exact ⟨by decide, by decide⟩
  · intro x hx; rw [List.eq_of_mem_replicate hx]; exact ⟨by decide, by decide⟩
  all_goals (first | exact ⟨by decide, by decide⟩ | (show _ ∧ _; decide))
theorem made100 : madeCells #[.int .u8 0] 100 = (aX.map (Value.int .u8)).toArray := by kernel_rfl
theorem at_buildK {P : Program} {ops : Array Oper} {rest : List Oper} {a : Act} {w : World} {Q : Exit → Act → World → Prop} {d : Option Tmp} {t p f g} (ty : TypeId) {fs : Array (Nat × Operand)} (h : wpList P ops Q (⟨d, .build ty fs, t, p, f, g⟩ :: rest) a w) : wpList P ops Q (⟨d, .build ty fs, t, p, f, g⟩ :: rest) a w := h
theorem built_runK {P : Program} {fr : Act} {o : Oper} {w : World} {T : TypeId} {fs : Array (Nat × Operand)} {L : List (Nat × Value)} {C : Array Value} (ho : o.op = .build T fs) (hL : fs.toList.map (fun p => (p.1, fr.eval p.2)) = L) (hb : P.built T L = some C) :
    (execOp fr.eval o).run P w = .ok (.value (.agg C)) w := by
  unfold execOp
  have e1 : (fs.map fun p => (p.1, fr.eval p.2)) = L.toArray := by rw [← hL]; apply Array.ext'; simp
  have h : (Instr.build T L.toArray).run P w = .ok (.agg C) w := run_build w T L.toArray C (by simpa using hb)
  simp [ho, e1, h, Result.andThen_ok]
theorem aP_built (A : Option Addr) : Try.prog.built 28 [(2, .int .u8 6), (4, .int .u32 7), (8, .slice A 100 100)] = some (pktV aP A 100 100) := by kernel_rfl
theorem lt_of_rowK {w : World} {g : Nat} {o : Obj} (h : w.heap[g]? = some o) : g < w.heap.size := (Array.getElem?_eq_some_iff.1 h).1
set_option maxRecDepth 100000 in
set_option maxHeartbeats 4000000 in
theorem alive_any {Tb : World → (Nat → Prop) → Nat → TSt → Prop} (F : FrF Tb) : Alive := by
  intro w
  have hzv := zeroPktK
  have hmk : ∀ w, (Instr.makeSlice 26 (.int .i64 100) (.int .i64 100)).run Try.prog w = .ok (.slice (some ⟨w.heap.size, 0, none⟩) 100 100) (w.alloc (.cells (madeCells #[.int .u8 0] 100) 5)) := fun w =>
    run_make_row' (P := Try.prog) 26 5 (.int .u8 0) 1 Try.underlying26 byte_infK rfl .i64 .i64 100 (by decide) (by decide) w
  obtain ⟨M, hM⟩ : ∃ M, M = madeCells #[.int .u8 0] 100 := ⟨_, rfl⟩
  rw [← hM] at hmk
  obtain ⟨W1, hW1⟩ : ∃ W, W = w.alloc (.cells M 5) := ⟨_, rfl⟩
  have HB1 := Lib.hid (show Below w.heap.size w W1 by rw [hW1]; exact alloc_below _ _)
  obtain ⟨A, hA⟩ : ∃ A, A = some (⟨w.heap.size, 0, none⟩ : Addr) := ⟨_, rfl⟩
  have HA := Lib.hid hA
  have NX := Lib.hid (show Nums .u8 W1 W1.heap.size A 100 aX by rw [hW1, hA]; exact (lit_nums .u8 w aX 5 M (hM.trans made100) 100 (by kernel_rfl)).more (by rw [alloc_size]; exact Nat.le_refl _))
  obtain ⟨CP, hCP⟩ : ∃ C, C = pktV aP A 100 100 := ⟨_, rfl⟩
  obtain ⟨ZP, hZP⟩ : ∃ C, C = pktV zPkt none 0 0 := ⟨_, rfl⟩
  rw [← hZP] at hzv
  have KB := Lib.hid (aP_built A)
  rw [← hCP] at KB
  have UI := Lib.hid (show (Try.prog.info? 28).map (·.size) = some CP.size by rw [hCP]; exact pkt_info aP_ok _ _ _)
  have ZI := Lib.hid (show ZP.size = CP.size by rw [hCP, hZP]; rfl)
  have ON := Lib.hid (show CP.all (·.oneCell') = true by rw [hCP]; exact pkt_one _ _ _ _)
  have XI := Lib.hid (fun (p : Pkt) (h : p.Ok) (A : Option Addr) (n c : Nat) => pkt_info h A n c)
  have XZ := Lib.hid (fun (p : Pkt) (h : p.Ok) (A : Option Addr) (n c : Nat) => (show ZP.size = (pktV p A n c).size by
    rw [hZP]
    have h1 := (pkC.pkC h A n c).size
    rw [h1]; rfl))
  have XO := Lib.hid pkt_one
  have CC := Lib.hid (fun (w' : World) (h : Nums .u8 w' w'.heap.size A 100 aX) => (show Calls Try.prog 8 #[.agg CP, .int .i64 48, .int .u32 0] w' (CutR w' aL 0) by
    have h1 := F.cut aP A 100 100 aX 48 0 w' aP_ok h aX_byte (Nat.le_refl _) (by decide) (by decide) (by decide) (by decide)
    rw [aE] at h1
    rw [hCP]
    exact h1))
  have NC := Lib.hid (fun (w' : World) => F.new 2 w' (by decide) (by decide))
  have AC := Lib.hid (fun (w' : World) (S : Nat → Prop) (t k : Nat) (e : Pe) (hT : Tb w' S t (aS k)) (hk : k < 5) (he : aL.getD (4 - k) zPc = e.pc) (ho : e.Ok) (hn : Nums .u8 w' w'.heap.size e.A e.n e.x) (hS : 0 < e.n → ∀ k, S k → ∀ i, e.A ≠ some ⟨k, i, none⟩) (h7 : e.n ≤ 70000) =>
    (show Calls Try.prog 12 #[.pointer (some ⟨t, 0, none⟩), .int .i64 1, .agg e.cells.toArray] w' (AddR Tb w' S t (if k = 4 then ((aP, aX), true, 0) else (zPc, false, 0)) (aS (k + 1))) by
      have h1 := F.add w' S t (aS k) 1 e.p e.A e.n e.c e.x hT (by decide) ho.p hn hS ho.y ho.nc ho.cm h7
      rw [← aS_step k hk, he, show aS (k + 1) = addT (aS k) 1 (aL.getD (4 - k) zPc) from rfl, he]
      exact h1))
  have LC := Lib.hid (fun (w' : World) (S : Nat → Prop) (t : Nat) (hT : Tb w' S t (aS 5)) => (show Calls Try.prog 18 #[.pointer (some ⟨t, 0, none⟩)] w' (Ret w' (.int .i64 0)) by
    have h1 := F.len w' S t (aS 5) hT
    rw [aS_end] at h1
    exact h1))
  have SC := Lib.hid (fun (w' : World) (B : Option Addr) (n c : Nat) (hx : Nums .u8 w' w'.heap.size A 100 aX) (hy : Nums .u8 w' w'.heap.size B n aX) => (show Calls Try.prog 13 #[.agg CP, .agg (pktV aP B n c)] w' (Ret w' (.bool true)) by
    have h1 := pkC.rsame_any aP aP A B 100 100 n c aX aX w' aP_ok aP_ok hx hy aX_byte aX_byte
    rw [sameB_selfK] at h1
    rw [hCP]
    exact h1))
  have KT := Lib.hid F.keep
  have LT := Lib.hid F.lt
  have HW1 := Lib.hid hW1
  clear F hM hCP hZP hA hW1
  go_enter Try.func7, Try.ntmps7
  go_upto_region 2 with (first
    | (with_reducible refine at_buildK 28 ?_; have hA1 := HA.out; have hW2 := HW1.out; rw [← hA1, ← hW2]; clear hA1 hW2; refine wpList_runG (by kernel_rfl) _ (built_runK (T := 28) (L := [(2, .int .u8 6), (4, .int .u32 7), (8, .slice A 100 100)]) rfl rfl KB.out) ?_)
    | (refine wpList_store_row rfl 28 (.tmp 1) (.tmp 11) rfl W1.heap.size CP rfl rfl _ _ (heap_alloc_new _ _) UI.out ZI.out ON.out ?_; rw [World.setRow_alloc_new]))
  have R2 := Lib.hid (heap_alloc_new W1 (.cells CP 28))
  have B2 := Lib.hid (alloc_below W1 (.cells CP 28))
  have HB2 := Lib.hid (HB1.out.trans (B2.out.mono HB1.out.size))
  have NX2 := Lib.hid ((NX.out.below B2.out).more B2.out.size)
  clear B2 NX HB1 KB ZI ON hmk HA HW1
  generalize W1.alloc (.cells CP 28) = w2 at *
  generalize W1.heap.size = g1 at *
  go_upto_region 3 with (first
    | (refine wpList_load_row rfl 28 (.tmp 1) rfl g1 rfl _ _ _ _ R2.out Try.underlying28 rfl UI.out ?_)
    | (go_at_call 8; (refine (CC.out w2 NX2.out).mono ?_); rintro e w3 ⟨A3, n3, c3, es, rfl, P3, E3, BB⟩
       have HB3 := Lib.hid (HB2.out.trans (BB.mono HB2.out.size))
       have R3 := Lib.hid ((BB.block _ (lt_of_rowK R2.out)).trans R2.out)
       have NX3 := Lib.hid ((NX2.out.below BB).more BB.size)
       have HP3 := Lib.hid P3
       have HE3 := Lib.hid E3
       clear BB P3 E3))
  obtain rfl : n3 = 5 := by
    have h1 := HP3.out.len
    have h2 := congrArg List.length HE3.out
    rw [List.length_map, aLen] at h2
    omega
  clear CC R2 HB2 NX2
  go_upto_region 4 with (first
    | (go_at_call 11; (refine (NC.out w3).mono ?_); rintro e w4 ⟨t, S0, rfl, T4, S4, BB⟩
       have HB4 := Lib.hid BB
       have HT4 := Lib.hid T4
       have HS4 := Lib.hid S4
       clear BB T4 S4))
  go_wp2_with fail
  go_loopw [6] (fun u wr => ∃ k : Nat, k ≤ 5 ∧ u = .int .i64 (4 - (k : Int)) ∧ Below w3.heap.size w3 wr ∧ ∃ S, Tb wr S t (aS k) ∧ (∀ j, S j → w3.heap.size ≤ j)) (fun u _ => (intOf u + 1).toNat)
  case atStart => exact ⟨0, by omega, rfl, HB4.out, S0, HT4.out, HS4.out⟩
  case round =>
    obtain ⟨k, hk, rfl, BW, S, TW, SW⟩ := hrel
    have HBW := Lib.hid BW
    have HTW := Lib.hid TW
    have HSW := Lib.hid SW
    clear BW TW SW HB4 HT4 HS4
    by_cases hlt : k < 5
    rotate_left
    · obtain rfl : k = 5 := by omega
      clear hlt hk
      have HBE := Lib.hid (HB3.out.trans (HBW.out.mono HB3.out.size))
      go_wp2_with (first
        | (go_at_call 18; (refine (LC.out _ S t HTW.out).mono ?_); rintro e w5 ⟨rfl, BB⟩
           have HB5 := Lib.hid (HBE.out.trans (BB.mono HBE.out.size))
           clear BB))
      go_ret
      exact ⟨rfl, HB5.out⟩
    obtain ⟨i, hi⟩ : ∃ i : Nat, i = 4 - k := ⟨_, rfl⟩
    have ei : (4 : Int) - (k : Int) = (i : Int) := by omega
    have hl1 := HP3.out.row.len
    obtain ⟨e, hei⟩ : ∃ e, es[i]? = some e := ⟨es[i]'(by omega), List.getElem?_eq_getElem _⟩
    have hpc : aL.getD (4 - k) zPc = e.pc := by rw [← hi, ← HE3.out, List.getD_eq_getElem?_getD, List.getElem?_map, hei]; rfl
    obtain ⟨b1, o1, hA1, hb1, c1⟩ := HP3.out.row.at_ (by omega)
    have me := List.mem_of_getElem? hei
    have oe := HP3.out.ok e me
    have ld := HP3.out.ld e me
    have C1 := Lib.hid (show ∀ j v, e.cells[j]? = some v → wr.cell? ⟨b1, o1 + i * 41 + j, none⟩ = some v from fun j v hv => (HBW.out.cell (p := ⟨b1, o1 + i * 41 + j, none⟩) hb1).trans (c1 i e hei j v hv))
    have IE := Lib.hid (pkt_size oe.p)
    have h7 : e.n ≤ 70000 := by
      have h1 := aSmall k hlt
      rw [hpc] at h1
      have h2 : e.x.length = e.n := ld.len
      have h3 : e.pc.2.length = e.x.length := rfl
      omega
    have AD := Lib.hid (AC.out wr S t k e HTW.out hlt hpc oe (Ld.below ld HBW.out HBW.out.size) (fun h0 j hj i' e' => by
      obtain ⟨b, o, e2, hb, -⟩ := ld.at_ h0
      rw [e'] at e2
      injection e2 with e2
      injection e2 with e2
      have := HSW.out j hj
      omega) h7)
    have I0 : (0 : Int) ≤ (i : Int) := by omega
    have I5 : (i : Int) < 5 := by omega
    have HI := Lib.hid hi
    have HK := Lib.hid hlt
    have R9 := Lib.hid ((HBW.out.block _ (lt_of_rowK R3.out)).trans R3.out)
    rw [ei]
    generalize hEC : e.cells = EC at *
    subst hA1
    clear ei hl1 hei hpc hb1 c1 me oe ld h7 hi hEC e
    by_cases h4 : k = 4
    · have AD := AD.out
      rw [if_pos h4] at AD
      have AD := Lib.hid AD
      have q0 : (i : Int) = 0 := by have := HI.out; omega
      have q0b : ((i : Int) == 0) = true := by simp; have := HI.out; omega
      have q0d : decide ((i : Int) = 0) = true := decide_eq_true q0
      have Q0 := Lib.hid q0
      clear q0
      clear h4
      go_upto_region 10 with (first
        | (refine pkC.wpList_load_partG (by kernel_rfl) 28 (.tmp 44) rfl b1 (o1 + i * 41) (by kernel_rfl) EC _ C1.out Try.underlying28 rfl IE.out ?_)
        | (go_at_call 12; (refine AD.out.mono ?_); rintro e w5 ⟨A5, n5, c5, S5, rfl, N5, nc5, cm5, T5, G5, FF⟩
           have HF := Lib.hid FF
           have HN5 := Lib.hid N5
           have HT5 := Lib.hid T5
           have HG5 := Lib.hid G5
           clear FF N5 nc5 cm5 T5 G5)
        | (refine wpList_store_row rfl 28 (.tmp 7) (.tmp 47) rfl w5.heap.size (pktV aP A5 n5 c5) rfl rfl _ _ (heap_alloc_new _ _) (XI.out aP aP_ok A5 n5 c5) (XZ.out aP aP_ok A5 n5 c5) (XO.out aP A5 n5 c5) ?_; rw [World.setRow_alloc_new]))
      have BA := alloc_below w5 (.cells (pktV aP A5 n5 c5) 28)
      have TE := Lib.hid (KT.out w5 (w5.alloc (.cells (pktV aP A5 n5 c5) 28)) S5 t _ HT5.out BA.size (fun j hj => BA.block j (LT.out _ _ _ _ HT5.out j hj)))
      have GE := Lib.hid (show ∀ j, S5 j → w3.heap.size ≤ j from fun j hj => by
        rcases HG5.out j hj with h | h
        · exact HSW.out j h
        · have := HBW.out.size; omega)
      have BE := Lib.hid (HBW.out.trans ((HF.out.to_below (B := w3.heap.size) HSW.out HBW.out.size).trans (BA.mono (by have h1 := HBW.out.size; have h2 := HF.out.size; omega))))
      have RQ := Lib.hid (heap_alloc_new w5 (.cells (pktV aP A5 n5 c5) 28))
      have RP := Lib.hid ((BE.out.block _ (lt_of_rowK R3.out)).trans R3.out)
      have S6 := Lib.hid (SC.out (w5.alloc (.cells (pktV aP A5 n5 c5) 28)) A5 n5 c5 ((NX3.out.below BE.out).more BE.out.size) ((HN5.out.below BA).more BA.size))
      have UQ := Lib.hid (XI.out aP aP_ok A5 n5 c5)
      clear BA HT5 HG5 HF HTW HSW HN5 C1 IE AD R9 AC
      generalize w5.alloc (.cells (pktV aP A5 n5 c5) 28) = w6 at *
      generalize w5.heap.size = g5 at *
      clear hzv
      generalize pktV aP A5 n5 c5 = CQ at *
      go_wp2_with (first
        | go_skip
        | (with_reducible refine atC.at_load 28 1 ?_; refine wpList_load_rowG (by kernel_rfl) 28 (.tmp 1) rfl g1 (by kernel_rfl) _ _ _ _ RP.out Try.underlying28 rfl UI.out ?_)
        | (with_reducible refine atC.at_load 28 7 ?_; refine wpList_load_rowG (by kernel_rfl) 28 (.tmp 7) rfl g5 (by kernel_rfl) _ _ _ _ RQ.out Try.underlying28 rfl UQ.out ?_)
        | (go_at_call 13; (refine S6.out.mono ?_); rintro e W8 ⟨rfl, BB⟩
           have HB8 := Lib.hid (BE.out.trans (BB.mono (by have h1 := BE.out.size; exact h1)))
           have TE8 := Lib.hid (KT.out _ W8 S5 t _ TE.out BB.size (fun j hj => BB.block j (LT.out _ _ _ _ TE.out j hj)))
           clear BB))
      go_roundw
      case rel => exact ⟨k + 1, by have := HK.out; omega, by have := HK.out; have := HI.out; go_num, HB8.out, S5, TE8.out, GE.out⟩
      case measure => have := HK.out; have := HI.out; simp [intOf] <;> omega
    · have AD := AD.out
      rw [if_neg h4] at AD
      have AD := Lib.hid AD
      have q0 : ¬ (i : Int) = 0 := by have := HI.out; have := HK.out; omega
      have q0b : ((i : Int) == 0) = false := by simp; have := HI.out; have := HK.out; omega
      have q0d : decide ((i : Int) = 0) = false := decide_eq_false q0
      clear h4
      go_upto_region 10 with (first
        | (refine pkC.wpList_load_partG (by kernel_rfl) 28 (.tmp 44) rfl b1 (o1 + i * 41) (by kernel_rfl) EC _ C1.out Try.underlying28 rfl IE.out ?_)
        | (go_at_call 12; (refine AD.out.mono ?_); rintro e w5 ⟨A5, n5, c5, S5, rfl, N5, nc5, cm5, T5, G5, FF⟩
           have HF := Lib.hid FF
           have HN5 := Lib.hid N5
           have HT5 := Lib.hid T5
           have HG5 := Lib.hid G5
           clear FF N5 nc5 cm5 T5 G5)
        | (refine wpList_store_row rfl 28 (.tmp 7) (.tmp 47) rfl w5.heap.size (pktV zPkt A5 n5 c5) rfl rfl _ _ (heap_alloc_new _ _) (XI.out zPkt zPkt_okK A5 n5 c5) (XZ.out zPkt zPkt_okK A5 n5 c5) (XO.out zPkt A5 n5 c5) ?_; rw [World.setRow_alloc_new]))
      have BA := alloc_below w5 (.cells (pktV zPkt A5 n5 c5) 28)
      have TE := Lib.hid (KT.out w5 (w5.alloc (.cells (pktV zPkt A5 n5 c5) 28)) S5 t _ HT5.out BA.size (fun j hj => BA.block j (LT.out _ _ _ _ HT5.out j hj)))
      have GE := Lib.hid (show ∀ j, S5 j → w3.heap.size ≤ j from fun j hj => by
        rcases HG5.out j hj with h | h
        · exact HSW.out j h
        · have := HBW.out.size; omega)
      have BE := Lib.hid (HBW.out.trans ((HF.out.to_below (B := w3.heap.size) HSW.out HBW.out.size).trans (BA.mono (by have h1 := HBW.out.size; have h2 := HF.out.size; omega))))
      clear BA HT5 HG5 HF HTW HSW HN5 C1 IE AD R9 AC
      generalize w5.alloc (.cells (pktV zPkt A5 n5 c5) 28) = w6 at *
      generalize w5.heap.size = g5 at *
      clear hzv
      go_wp2_with go_skip
      go_roundw
      case rel => exact ⟨k + 1, by have := HK.out; omega, by have := HK.out; have := HI.out; go_num, BE.out, S5, TE.out, GE.out⟩
      case measure => have := HK.out; have := HI.out; simp [intOf] <;> omega
end Go.Proofs.Ytcnnpfjommiafaa.fgC

/-
  What is to come together: the law's want.
-/
namespace Go.Proofs.Ytcnnpfjommiafaa.fgC
open Go.ChangeShapes Go.WideShapes Go.ChangeAt Go.RowKit
open Go.Proofs.Ytcnnpfjommiafaa.memC Go.Proofs.Ytcnnpfjommiafaa.genC Go.Proofs.Ytcnnpfjommiafaa.butC Go.Proofs.Ytcnnpfjommiafaa.freeC Go.Proofs.Ytcnnpfjommiafaa.adC
open Go.Proofs.Ytcnnpfjommiafaa.pkC (Pkt pktL pktV pktT adrC)
set_option linter.unusedVariables false
def wantP (p : Pkt) : Pkt := if p.s = true then { p with id := 0 } else p
theorem wantP_ok {p : Pkt} (h : p.Ok) : (wantP p).Ok := by
  unfold wantP
  split
  · exact ⟨h.la, h.lb, h.ya, h.yb, h.proto, h.hops, ⟨by show (0 : Int) ≤ 0; decide, by show (0 : Int) ≤ 4294967295; decide⟩, h.off⟩
  · exact h
theorem setR_belowK {w w1 : World} {b g : Nat} (h : Below b w w1) (hg : b ≤ g) (cs : Array Value) : Below b w (w1.setRow g cs) :=
  ⟨h.os, h.tape, h.output, by simpa using h.size, fun k hk => by rw [setRow_other _ _ _ _ (by omega)]; exact h.block k hk⟩
set_option maxRecDepth 100000 in
set_option maxHeartbeats 1000000 in
theorem want_any (p : Pkt) (A : Option Addr) (n c : Nat) (w : World) (hp : p.Ok) : Calls Try.prog 14 #[.agg (pktV p A n c)] w (Ret w (.agg (pktV (wantP p) A n c))) := by
  have hzv := zeroPktK
  obtain ⟨W0, hW0⟩ : ∃ W, W = w.alloc (.cells (pktV p A n c) 28) := ⟨_, rfl⟩
  obtain ⟨W, hW⟩ : ∃ W, W = W0.alloc (.cells (pktV zPkt none 0 0) 28) := ⟨_, rfl⟩
  have z0 : W0.heap.size = w.heap.size + 1 := by rw [hW0, alloc_size]
  have B0 : Below w.heap.size w W0 := by rw [hW0]; exact alloc_below _ _
  have B1 : Below W0.heap.size W0 W := by rw [hW]; exact alloc_below _ _
  have T0 := Lib.hid (show Qb w W w.heap.size p A n c from ⟨by rw [B1.block _ (by omega), hW0]; exact heap_alloc_new _ _, B0.trans (B1.mono (by omega)), Nat.le_refl _, hp⟩)
  have RZ := Lib.hid (show W.heap[w.heap.size + 1]? = some (.cells (pktV zPkt none 0 0) 28 (0, 0)) by rw [hW, ← z0]; exact heap_alloc_new _ _)
  have p0 := pkC.PkC.cell T0.out.row ((pkC.pkC hp A n c).src 0 (.bool p.s) rfl)
  have IQ := Lib.hid (pkt_info hp A n c)
  have IW := Lib.hid (fun (q : Pkt) (h : q.Ok) => pkt_info h A n c)
  have SW := Lib.hid (fun (q : Pkt) (h : q.Ok) => (show (pktV zPkt none 0 0).size = (pktV q A n c).size by rw [(pkC.pkC h A n c).size]; rfl))
  have OW := Lib.hid (fun (q : Pkt) => pkt_one q A n c)
  have WO := Lib.hid (wantP_ok hp)
  obtain ⟨CP, hCP⟩ : ∃ C, C = pktV p A n c := ⟨_, rfl⟩
  rw [← hCP] at hW0 ⊢
  obtain ⟨ZP, hZP⟩ : ∃ C, C = pktV zPkt none 0 0 := ⟨_, rfl⟩
  rw [← hZP] at hW RZ SW hzv
  have HCP := Lib.hid hCP
  clear B0 B1 hCP hZP hp
  cases hs : p.s with
  | false =>
    rw [hs] at p0
    have hwp : wantP p = p := by unfold wantP; rw [if_neg (by rw [hs]; decide)]
    rw [hwp, ← HCP.out]
    have IQ' := Lib.hid (show (Try.prog.info? 28).map (·.size) = some CP.size by rw [HCP.out]; exact IQ.out)
    have SQ' := Lib.hid (show ZP.size = CP.size by rw [HCP.out]; exact SW.out p T0.out.ok)
    have OQ' := Lib.hid (show CP.all (·.oneCell') = true by rw [HCP.out]; exact OW.out p)
    have RP := Lib.hid (show W.heap[w.heap.size]? = some (.cells CP 28 (0, 0)) by rw [HCP.out]; exact T0.out.row)
    clear hwp hs
    go_enter Try.func14, Try.ntmps14
    go_upto_region 1 with fail
    rw [← hW0, ← hW]
    try rw [z0]
    clear hW0 hW z0 hzv
    go_wp2_with (first
      | (refine wpList_load_row rfl 28 (.tmp 1) rfl (w.heap.size) rfl _ _ _ _ RP.out Try.underlying28 rfl IQ'.out ?_)
      | (refine wpList_store_row rfl 28 (.tmp 2) (.tmp 7) rfl (w.heap.size + 1) _ rfl rfl _ _ RZ.out IQ'.out SQ'.out OQ'.out ?_))
    refine bodyPost_ret (v := .agg CP) (Go.results_cell_row Try.results14 _ _ (w.heap.size + 1) _ _ _ _ (by rfl) (setRow_heap _ _ _ _ _ _ RZ.out) Try.underlying28 rfl IQ'.out) rfl ?_
    exact ⟨rfl, setR_belowK T0.out.bel (by omega) _⟩
  | true =>
    rw [hs] at p0
    have hwp : wantP p = { p with id := 0 } := by unfold wantP; rw [if_pos hs]
    rw [hwp] at WO ⊢
    have c36 := T0.out.cell 2 _ rfl
    have f36 := T0.out.frozen 2
    clear hwp hs
    go_enter Try.func14, Try.ntmps14
    go_upto_region 1 with fail
    rw [← hW0, ← hW]
    try rw [z0]
    clear hW0 hW z0 hzv
    go_upto_region 3 with fail
    have T2 := Lib.hid (show Qb w (W.setCell ⟨w.heap.size, 36, none⟩ (.int .u32 0)) w.heap.size { p with id := 0 } A n c from T0.out.set_ 2 (.int .u32 0) rfl ⟨rfl, rfl, rfl, rfl⟩ WO.out)
    have RZ2 := Lib.hid (show (W.setCell ⟨w.heap.size, 36, none⟩ (.int .u32 0)).heap[w.heap.size + 1]? = some (.cells ZP 28 (0, 0)) by rw [Below.heap_setCell _ _ _ _ (by show w.heap.size + 1 ≠ w.heap.size; omega)]; exact RZ.out)
    clear c36 f36 p0 RZ IQ HCP T0
    generalize W.setCell ⟨w.heap.size, 36, none⟩ (.int .u32 0) = w2 at *
    have IQ' := Lib.hid (IW.out _ WO.out)
    have SQ' := Lib.hid (SW.out _ WO.out)
    have OQ' := Lib.hid (OW.out { p with id := 0 })
    have RP := Lib.hid T2.out.row
    generalize pktV { p with id := 0 } A n c = CQ at *
    go_wp2_with (first
      | (refine wpList_load_row rfl 28 (.tmp 1) rfl (w.heap.size) rfl _ _ _ _ RP.out Try.underlying28 rfl IQ'.out ?_)
      | (refine wpList_store_row rfl 28 (.tmp 2) (.tmp 7) rfl (w.heap.size + 1) _ rfl rfl _ _ RZ2.out IQ'.out SQ'.out OQ'.out ?_))
    refine bodyPost_ret (v := .agg CQ) (Go.results_cell_row Try.results14 _ _ (w.heap.size + 1) _ _ _ _ (by rfl) (setRow_heap _ _ _ _ _ _ RZ2.out) Try.underlying28 rfl IQ'.out) rfl ?_
    exact ⟨rfl, setR_belowK T2.out.bel (by omega) _⟩
end Go.Proofs.Ytcnnpfjommiafaa.fgC

/-
  What Cut gives is a Cutting; a set of numbers as a map.
-/
namespace Go.Proofs.Ytcnnpfjommiafaa.fgC
open Go.ChangeShapes Go.WideShapes Go.ChangeAt Go.RowKit Go.Maps
open Go.Proofs.Ytcnnpfjommiafaa.memC Go.Proofs.Ytcnnpfjommiafaa.genC Go.Proofs.Ytcnnpfjommiafaa.butC Go.Proofs.Ytcnnpfjommiafaa.freeC Go.Proofs.Ytcnnpfjommiafaa.adC
open Go.Proofs.Ytcnnpfjommiafaa.pkC (Pkt pktL pktV pktT adrC)
set_option linter.unusedVariables false
theorem size_ok {six : Bool} {mtu : Int} (h : leastN six ≤ mtu) : sizeN six mtu % 8 = 0 ∧ 0 < sizeN six mtu := by
  unfold leastN at h
  unfold sizeN pieceN
  cases six
  · simp only [Bool.false_eq_true, if_false] at h ⊢
    omega
  · simp only [if_true] at h ⊢
    omega
/-- two pieces or more: a Cutting -/
theorem cutting_of {q : Pc} {mtu id : Int} (hE : cutE q mtu = 0) (h2 : 2 ≤ (cutL q mtu id).length) (h64 : (cutL q mtu id).length ≤ 64) (hs : q.2.length ≤ 1500) :
    ∃ sz, Cutting q id sz (cutL q mtu id).length ∧ ∀ i, i < (cutL q mtu id).length → (cutL q mtu id)[i]? = some (pieceP q id sz (i * sz)) := by
  by_cases ha : argP q mtu = true
  · unfold cutE at hE; rw [if_pos ha] at hE; cases hE
  by_cases hf : fitsP q mtu = true
  · unfold cutL at h2; rw [if_neg ha, if_pos hf] at h2; simp at h2
  by_cases hw : (q.1.whole && !q.1.s) = true
  · unfold cutE at hE; rw [if_neg ha, if_neg hf, if_pos hw] at hE; cases hE
  have e : cutL q mtu id = piecesP q id (sizeN q.1.s mtu) q.2.length 0 := by unfold cutL; rw [if_neg ha, if_neg hf, if_neg hw]
  rw [e] at h2 h64 ⊢
  unfold argP at ha
  simp only [Bool.or_eq_true, not_or, Bool.not_eq_true, Bool.not_eq_false', decide_eq_false_iff_not, Int.not_lt] at ha
  obtain ⟨hm, -, hl, -⟩ := ha
  obtain ⟨h8, h0⟩ := size_ok hl
  refine ⟨sizeN q.1.s mtu, ⟨h8, h0, fun i => pieces_len q id h0 i, h2, h64, hm, hs⟩, fun i hi => pieces_at q id h0 ((pieces_len q id h0 i).1 hi)⟩
/-- what comes together is what was cut -/
theorem out_want {q : Pc} {id : Int} {sz : Nat} (hw : q.1.whole = q.1.s) (ho : q.1.off = 0) (hm : q.1.more = false) : outP (pieceP q id sz 0) q.2 = (wantP q.1, q.2) := by
  obtain ⟨⟨s, a, t, b, pr, hp, i, wh, mo, off⟩, x⟩ := q
  simp only at hw ho hm
  subst hw ho hm
  unfold outP pieceP wantP
  cases wh <;> simp
/-! ### a set of numbers -/
theorem int_law : Keyed Try.prog 3 := int_keyed Try.underlying3
structure SetI (w : World) (B k : Nat) (J : List Nat) (D : DataW Unit) : Prop where
  own : w.ownsMap Try.prog 3 (plainElem Try.prog 4) B k D
  size : Maps.size D = J.length
  has : ∀ i : Nat, Maps.has D (.int .i64 (i : Int)) = decide (i ∈ J)
theorem key_int (i : Nat) : WideAt.IsKeyLit (.int .i64 (i : Int)) := by
  trivial
theorem SetI.made (w : World) : SetI (w.alloc (.map #[] 0)) w.heap.size 0 [] (.map []) := ⟨World.ownsMap_made _ _ _ _, rfl, fun i => rfl⟩
theorem SetI.put {w w' : World} {B k : Nat} {J : List Nat} {D : DataW Unit} (h : SetI w B k J D) (i : Nat) (h' : w'.ownsMap Try.prog 3 (plainElem Try.prog 4) B (k + 1) (D.put (.int .i64 (i : Int)) (.lit (.bool true)))) :
    SetI w' B (k + 1) (if i ∈ J then J else J ++ [i]) (D.put (.int .i64 (i : Int)) (.lit (.bool true))) := by
  have ht := h.own.tidy int_law
  refine ⟨h', ?_, fun j => ?_⟩
  · rw [size_put ht, h.has i, h.size]
    by_cases hi : i ∈ J <;> simp [hi]
  · by_cases e : j = i
    · subst e
      rw [has_put_same ht.isMap (key_int j)]
      by_cases hi : j ∈ J <;> simp [hi]
    · rw [has_put_other (by intro e2; injection e2 with _ e2; exact e (by omega)), h.has j]
      by_cases hi : i ∈ J
      · simp [hi]
      · simp [hi, e]
theorem SetI.below {w w' : World} {B k C : Nat} {J : List Nat} {D : DataW Unit} (h : SetI w B k J D) (hb : Below C w w') (hC : B < C) : SetI w' B k J D := by
  refine ⟨?_, h.size, h.has⟩
  obtain ⟨es, clock, hb', r⟩ := h.own
  exact ⟨es, clock, (hb.block B hC).trans hb', r⟩
theorem SetI.mono {w : World} {B k : Nat} {J : List Nat} {D : DataW Unit} (h : SetI w B k J D) {k' : Nat} (hk : k ≤ k') : SetI w B k' J D := ⟨h.own.mono hk, h.size, h.has⟩
theorem SetI.same {w w' : World} {B k : Nat} {J : List Nat} {D : DataW Unit} (h : SetI w B k J D) (he : w'.heap[B]? = w.heap[B]?) : SetI w' B k J D := by
  refine ⟨?_, h.size, h.has⟩
  obtain ⟨es, clock, hb', r⟩ := h.own
  exact ⟨es, clock, he.trans hb', r⟩
/-- the numbers met, with one more -/
def metN (J : List Nat) (i : Nat) : List Nat := if i ∈ J then J else J ++ [i]
/-- a piece comes -/
theorem step_piece {q : Pc} {id : Int} {sz N : Nat} (h : Cutting q id sz N) (hw : q.1.whole = q.1.s) (h0 : q.1.off = 0) (hm : q.1.more = false) {o : Pc} (ho : o.1.proto ≠ q.1.proto) {st : TSt} (hr : 2 ≤ st.room) {J : List Nat} (hd : J.Nodup) (hb : ∀ j ∈ J, j < N) (hJN : J.length < N) (hp : Pres q id sz o J st.l) {i : Nat} (hi : i < N) (now : Int) :
    addR st now (pieceP q id sz (i * sz)) = (if (metN J i).length = N then ((wantP q.1, q.2), true, 0) else (zPc, false, 0)) ∧ (addT st now (pieceP q id sz (i * sz))).room = st.room ∧ (metN J i).Nodup ∧ (∀ j ∈ metN J i, j < N) ∧
    ((metN J i).length = N ∨ (metN J i).length < N ∧ Pres q id sz o (metN J i) (addT st now (pieceP q id sz (i * sz))).l) := by
  have hs := add_piece h ho (st := { st with t := laterT st.t now }) hr hd hb hJN hp hi
  have hout := out_want (sz := sz) (id := id) hw h0 hm
  unfold metN
  by_cases hin : i ∈ J
  · rw [if_pos hin, if_neg (by omega)]
    obtain ⟨e1, e2⟩ := hs.1 hin
    exact ⟨e1, rfl, hd, hb, .inr ⟨hJN, e2⟩⟩
  · rw [if_neg hin]
    have hl : (J ++ [i]).length = J.length + 1 := by simp
    have hnd : (J ++ [i]).Nodup := by rw [List.nodup_append]; exact ⟨hd, by simp, fun a ha b hb2 e => by simp at hb2; subst hb2; subst e; exact hin ha⟩
    have hbd : ∀ j ∈ J ++ [i], j < N := fun j hj => by
      rcases List.mem_append.1 hj with hj | hj
      · exact hb j hj
      · simp at hj; subst hj; exact hi
    rw [hl]
    by_cases hN : J.length + 1 = N
    · rw [if_pos hN]
      refine ⟨?_, rfl, hnd, hbd, .inl hN⟩
      have h1 := (hs.2 hin).2 hN
      rw [hout] at h1
      exact h1
    · rw [if_neg hN]
      obtain ⟨e1, e2⟩ := (hs.2 hin).1 (by omega)
      exact ⟨e1, rfl, hnd, hbd, .inr ⟨by omega, e2⟩⟩
/-- another one's piece comes -/
theorem step_other {q : Pc} {id : Int} {sz N : Nat} (h : Cutting q id sz N) {o : Pc} (ho : o.1.proto ≠ q.1.proto) (hw : wholeP o = false) {st : TSt} (hr : 2 ≤ st.room) {J : List Nat} (hp : Pres q id sz o J st.l) (now : Int) : (addT st now o).room = st.room ∧ Pres q id sz o J (addT st now o).l :=
  ⟨rfl, add_other h ho hw (st := { st with t := laterT st.t now }) hr hp⟩
theorem proto_next {x : Int} (h : Byte x) : IntKind.u8.wrap (x + 1) ≠ x ∧ Byte (IntKind.u8.wrap (x + 1)) := by
  obtain ⟨a, b⟩ := h
  by_cases e : x = 255
  · subst e; exact ⟨by decide, by decide, by decide⟩
  · have : IntKind.u8.wrap (x + 1) = x + 1 := IntWalk.u8_in _ (by omega)
    rw [this]
    exact ⟨by omega, by omega, by omega⟩
end Go.Proofs.Ytcnnpfjommiafaa.fgC
