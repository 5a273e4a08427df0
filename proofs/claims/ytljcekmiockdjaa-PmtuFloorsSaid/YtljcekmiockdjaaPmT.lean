/-
  The program's Floor and Plateau; New; what is known of the zero address; that none has to go.
-/
import Derived.Test.YtljcekmiockdjaaPmK
import Derived.Test.YtljcekmiockdjaaIdx
import Derived.Test.YtljcekmiockdjaaFree
import Derived.Test.YtljcekmiockdjaaLst
namespace Go.Proofs.Ytljcekmiockdjaa.pmC
open Go.ChangeShapes Go.WideShapes Go.ChangeAt Go.RowKit
open Go.Proofs.Ytljcekmiockdjaa.memC Go.Proofs.Ytljcekmiockdjaa.genC Go.Proofs.Ytljcekmiockdjaa.butC Go.Proofs.Ytljcekmiockdjaa.freeC Go.Proofs.Ytljcekmiockdjaa.adC
set_option linter.unusedVariables false
set_option linter.constructorNameAsVariable false
set_option maxRecDepth 100000 in
theorem floor_any (s : Bool) (b : List Int) (w : World) : Calls Try.prog 5 #[.agg (adrV s b)] w (Ret w (.int .i64 (floorL s))) := by
  have k1 : (w.alloc (.cells (adrV s b) 24)).cell? ⟨w.heap.size, 0, none⟩ = some (.bool s) := by rw [cell_new]; exact adrV_six _ _
  have B := Lib.hid (alloc_below w (.cells (adrV s b) 24))
  generalize adrV s b = C at *
  cases s
  all_goals
    go_enter Try.func5, Try.ntmps5
    go_wp2_with fail
    go_ret
    exact ⟨rfl, B.out⟩
def plV : Array Value := #[.int .i64 32000, .int .i64 17914, .int .i64 8166, .int .i64 4352, .int .i64 2002, .int .i64 1492, .int .i64 1280, .int .i64 1006, .int .i64 576, .int .i64 508, .int .i64 296]
theorem int_one : ∃ i, Try.prog.info? 3 = some i ∧ i.size = 1 := by
  have h : (Try.prog.info? 3).map (·.size) = some 1 := by kernel_rfl
  obtain ⟨i, h1, h2⟩ := Option.map_eq_some_iff.1 h
  exact ⟨i, h1, h2⟩
set_option maxRecDepth 100000 in
theorem plateau_any (n : Int) (w : World) : Calls Try.prog 7 #[.int .i64 n] w (Ret w (.int .i64 (plat n))) := by
  obtain ⟨PL, hPL⟩ : ∃ PL, PL = plV := ⟨_, rfl⟩
  have HC := Lib.hid (show ∀ i x, i < 11 → platL[i]? = some x → PL[i]? = some (Value.int .i64 x) from fun i x hi hx => by
    have e : PL.toList = (platL.take 11).map (Value.int .i64) := by rw [hPL]; rfl
    rw [← Array.getElem?_toList, e, List.getElem?_map, List.getElem?_take_of_lt hi, hx]; rfl)
  have HL := Lib.hid (show platL.length = 12 from rfl)
  have HD := Lib.hid (show platL.drop 11 = [68] from rfl)
  have HP := Lib.hid (show plat n = (platL.find? fun x => decide (x < n)).getD 68 from rfl)
  obtain ⟨i0, hi0, hz1⟩ := int_one
  have T1 := Lib.hid hi0; have T3 := Lib.hid hz1
  have B := Lib.hid (Below.refl w.heap.size w)
  clear hi0 hz1
  generalize plat n = V at *
  generalize platL = L at *
  go_enter Try.func7, Try.ntmps7
  go_upto_region 2 with fail
  rw [show (#[.int .i64 32000, .int .i64 17914, .int .i64 8166, .int .i64 4352, .int .i64 2002, .int .i64 1492, .int .i64 1280, .int .i64 1006, .int .i64 576, .int .i64 508, .int .i64 296] : Array Value) = PL from hPL.symm]
  clear hPL
  go_loopw [6] (fun u wr => ∃ i : Nat, u = .int .i64 i ∧ i ≤ 11 ∧ (∀ j x, j < i → L[j]? = some x → decide (x < n) = false) ∧ wr = w) (fun u _ => 13 - (intOf u).toNat)
  case atStart => exact ⟨0, rfl, by omega, fun j x h => by omega, rfl⟩
  case round =>
    obtain ⟨i, rfl, hi, hz, rfl⟩ := hrel
    have HZ := Lib.hid hz
    clear hz
    by_cases hlt : i < 11
    · have q6 : (i : Int) < 11 := by omega
      have wi : IntKind.i64.wrap ((i : Int) + 1) = (i : Int) + 1 := IntWalk.i64_in _ (by omega)
      obtain ⟨x, hx⟩ : ∃ x, L[i]? = some x := ⟨_, List.getElem?_eq_getElem (by rw [HL.out]; omega)⟩
      have ix : (Instr.index 40 (.agg PL) (.int .i64 (i : Int))).run Try.prog wr = .ok (.int .i64 x) wr := idxC.run_idx wr _ _ 11 .i64 i0 PL i _ Try.underlying40 rfl T1.out T3.out hlt (HC.out i x hlt hx)
      have HX := Lib.hid hx
      have HI := Lib.hid hlt
      by_cases hn : x < n
      · have hv := Lib.hid (show V = x by
          rw [HP.out, find_drop L i HZ.out]
          obtain ⟨h2, h3⟩ := List.getElem?_eq_some_iff.1 HX.out
          rw [List.drop_eq_getElem_cons h2, h3, List.find?_cons, decide_eq_true hn]; rfl)
        clear hi hx hlt
        go_wp2_with fail
        go_ret
        exact ⟨by rw [hv.out]; rfl, B.out⟩
      · have HNX := Lib.hid (show ∀ j y, j < i + 1 → L[j]? = some y → decide (y < n) = false from fun j y hj hy => by
          rcases Nat.lt_or_ge j i with q | q
          · exact HZ.out j y q hy
          · obtain rfl : j = i := by omega
            rw [HX.out] at hy
            injection hy with hy
            subst hy
            exact decide_eq_false hn)
        clear hi hx hlt
        go_wp2_with fail
        go_roundw
        case rel => exact ⟨i + 1, by simp, HI.out, HNX.out, by first | rfl | trivial⟩
        case measure => have := HI.out; simp [intOf]; omega
    have ei : i = 11 := by omega
    have hv := Lib.hid (show V = 68 by
      rw [HP.out, find_drop L i HZ.out, ei, HD.out, List.find?_cons]
      cases decide ((68 : Int) < n) <;> rfl)
    subst ei
    have q6 : ¬ ((11 : Nat) : Int) < 11 := by omega
    clear hi hlt
    go_wp2_with fail
    go_ret
    exact ⟨by rw [hv.out]; rfl, B.out⟩
def K0 (B : Nat) (w : World) (t : Nat) : Prop := ∃ b, CC w B t b 0 false 0
def K1 (B : Nat) (w : World) (t : Nat) : Prop := ∃ b n, (0 ≤ n ∧ n ≤ 1) ∧ CC w B t b n true 1
theorem cch_built (b : Nat) : Try.prog.built 34 [(1, .int .i64 1500), (3, .map (some b))] = some #[.pointer none, .int .i64 1500, .int .i64 0, .map (some b)] := by kernel_rfl
set_option maxRecDepth 100000 in
set_option maxHeartbeats 4000000 in
theorem new_any (w : World) : Calls Try.prog 13 #[.int .i64 1500] w fun e w' => ∃ t, e = .returned (.tuple #[.pointer (some ⟨t, 0, none⟩), .int .i64 0]) ∧ K0 w.heap.size w' t ∧ Below w.heap.size w w' := by
  have hmm := @run_makeMap Try.prog
  obtain ⟨W1, hW1⟩ : ∃ W, W = w.alloc (.map #[] 0) := ⟨_, rfl⟩
  obtain ⟨W, hW⟩ : ∃ W, W = W1.alloc (.cells #[.pointer none, .int .i64 1500, .int .i64 0, .map (some w.heap.size)] 34) := ⟨_, rfl⟩
  have B1 := Lib.hid (show Below w.heap.size w W1 by rw [hW1]; exact alloc_below _ _)
  have B2 := Lib.hid (show Below W1.heap.size W1 W by rw [hW]; exact alloc_below _ _)
  have S1' := Lib.hid (show W1.heap.size = w.heap.size + 1 by rw [hW1]; simp)
  have M1 := Lib.hid (show W.heap[w.heap.size]? = some (.map (ents false) 0) from (B2.out.block _ (by rw [S1'.out]; omega)).trans (by rw [hW1]; exact heap_alloc_new _ _))
  have RT := Lib.hid (show W.heap[w.heap.size + 1]? = some (.cells #[.pointer none, .int .i64 1500, .int .i64 0, .map (some w.heap.size)] 34 (0, 0)) by rw [hW, ← S1'.out]; exact heap_alloc_new _ _)
  have SW := Lib.hid (show W.heap.size = w.heap.size + 2 by rw [hW]; simp [S1'.out])
  have c0 : W.cell? ⟨w.heap.size + 1, 0, none⟩ = some (.pointer none) := cell_of_row W _ 0 _ _ (0, 0) RT.out
  have f0 : W.frozen? ⟨w.heap.size + 1, 0, none⟩ = false := frozen_of_row W _ 0 _ _ RT.out
  have HW := Lib.hid hW
  have HW1 := Lib.hid hW1
  have HS := Lib.hid (show W1.heap.size = w.heap.size + 1 from S1'.out)
  clear hW hW1
  go_enter Try.func13, Try.ntmps13
  go_upto_region 4 with go_skip
  have e1 : (w.alloc (.map #[] 0)).alloc (.cells #[.pointer none, .int .i64 1500, .int .i64 0, .map (some w.heap.size)] 34) = W := by rw [HW.out, HW1.out]
  try rw [← HW1.out]
  try rw [← HW.out]
  try rw [e1]
  try rw [HS.out]
  clear e1
  go_wp2_with go_skip
  go_ret2
  refine ⟨w.heap.size + 1, rfl, ⟨w.heap.size, heap_setCell_same W _ 0 _ _ _ RT.out, (Below.heap_setCell _ _ _ _ (by show w.heap.size ≠ w.heap.size + 1; omega)).trans M1.out, Nat.le_succ _, Nat.le_refl _⟩, ?_⟩
  exact (B1.out.trans (B2.out.mono B1.out.size)).setCell (p := ⟨w.heap.size + 1, 0, none⟩) (Nat.le_succ _) _
/-! ### a look-up, into a new variable -/
section
variable {P : Program} {ops : Array Oper} {C : World → Prop} {Q : Act → Prop} {a : Act} {o : Oper} {rest : List Oper}
theorem quiet_run {K : Act → Prop} (v : Value) (h : ∀ w, C w → (execOp a.eval o).run P w = .ok (.value v) w) (hk : K (a.put o.dst v)) : o.quiet P a C K :=
  ⟨v, fun w hw => by unfold Oper.quietAt; rw [h w hw]; exact ⟨rfl, rfl⟩, hk⟩
theorem wpQuiet_run (hg : o.guard = none) (v : Value) (h : ∀ w, C w → (execOp a.eval o).run P w = .ok (.value v) w) (hk : wpQuiet P ops C Q rest (a.put o.dst v)) : wpQuiet P ops C Q (o :: rest) a :=
  BigFrame.wpQuiet_want (by simp [Region.wanted, hg]) fun K hK => quiet_run v h (hK _ hk)
theorem wpQuiet_row (hg : o.guard = none) (ty : TypeId) (x : Operand) (ho : o.op = .load ty x) (g : Nat) (hx : a.eval x = .pointer (some ⟨g, 0, none⟩)) (t : TypeId) (cs : Array Value) (fr : Nat × Nat) (d : TypeDesc) (hr : ∀ w, C w → w.heap[g]? = some (.cells cs t fr))
    (hu : P.underlying ty = some d) (hd : (match d with | .struct _ | .array _ _ => true | _ => false) = true) (hi : (P.info? ty).map (·.size) = some cs.size)
    (h : wpQuiet P ops C Q rest (a.put o.dst (.agg cs))) : wpQuiet P ops C Q (o :: rest) a :=
  wpQuiet_run hg _ (fun w hw => by
    unfold execOp
    simp only [ho, hx, Instr.loadAt, Instr.sureAddr, Sem.run_bind, Sem.run_pure, Result.andThen_ok, run_loadVar_row w g t ty cs fr d (hr w hw) hu hd hi]) h
end
theorem ev_tmp {fr : Act} {s : Tmp} {v : Value} (h : fr.tmps[s]?.getD undef = v) : fr.eval (.tmp s) = v := by simpa only [Act.eval, Array.getD_eq_getD_getElem?] using h
theorem look_run {P : Program} {fr : Act} {o : Oper} {w : World} {T : TypeId} {s x : Tmp} {u k v : Value} (ho : o.op = .lookup T (.tmp s) (.tmp x) true) (hs : fr.tmps[s]?.getD undef = u) (hx : fr.tmps[x]?.getD undef = k)
    (hq : (Instr.lookup T u k true).run P w = .ok v w) : (execOp fr.eval o).run P w = .ok (.value v) w := by
  unfold execOp
  simp only [ho, ev_tmp hs, ev_tmp hx, Sem.run_bind, Sem.run_pure, Result.andThen_ok, hq]
structure LkJ (W : World) (na ns : Nat) (V : Nat → Value) (CX ZV : Array Value) (m : Nat → Bool) (us : Nat → Value) (w : World) : Prop where
  os : w.os = W.os
  tape : w.tape = W.tape
  output : w.output = W.output
  size : w.heap.size = W.heap.size + (if m na = true then 1 else 0)
  block : ∀ k, k < W.heap.size → w.heap[k]? = W.heap[k]?
  val : ∀ i, m i = true → i ≠ ns → us i = V i
  ord : m ns = true → m na = true
  row : m na = true → w.heap[W.heap.size]? = some (.cells (if m ns = true then CX else ZV) 48 (0, 0))
section
variable {W w : World} {na ns : Nat} {V : Nat → Value} {CX ZV : Array Value} {m : Nat → Bool} {us : Nat → Value}
theorem LkJ.start (W : World) (na ns : Nat) (V : Nat → Value) (CX ZV : Array Value) (us : Nat → Value) : LkJ W na ns V CX ZV (fun _ => false) us W.drew :=
  ⟨rfl, rfl, rfl, rfl, fun _ _ => rfl, fun i h => (by cases h), fun h => (by cases h), fun h => (by cases h)⟩
theorem LkJ.val_ (h : LkJ W na ns V CX ZV m us w) (i : Nat) (h1 : i ≠ na) (h2 : i ≠ ns) (v : Value) (hv : v = V i) : LkJ W na ns V CX ZV (upd m i true) (upd us i v) w := by
  refine ⟨h.os, h.tape, h.output, ?_, h.block, fun j hj hn => ?_, ?_, ?_⟩
  · rw [upd_other m true (Ne.symm h1)]; exact h.size
  · by_cases e : j = i
    · subst e; rw [upd_same]; exact hv
    · rw [upd_other us v e]
      rw [upd_other m true e] at hj
      exact h.val j hj hn
  · rw [upd_other m true (Ne.symm h1), upd_other m true (Ne.symm h2)]; exact h.ord
  · rw [upd_other m true (Ne.symm h1), upd_other m true (Ne.symm h2)]; exact h.row
theorem LkJ.all (h : LkJ W na ns V CX ZV m us w) (hm : m na = false) (hV : V na = .pointer (some ⟨W.heap.size, 0, none⟩)) (hne : na ≠ ns) (hs : m ns = false) : LkJ W na ns V CX ZV (upd m na true) (upd us na (.pointer (some ⟨w.heap.size, 0, none⟩))) (w.alloc (.cells ZV 48)) := by
  have e0 : w.heap.size = W.heap.size := by have := h.size; rw [hm] at this; simpa using this
  refine ⟨h.os, h.tape, h.output, ?_, fun k hk => ?_, fun j hj hn => ?_, fun _ => upd_same _ _ _, fun _ => ?_⟩
  · rw [upd_same, alloc_size, e0]; rfl
  · rw [(alloc_below _ _).block k (by rw [e0]; exact hk)]; exact h.block k hk
  · by_cases e : j = na
    · subst e; rw [upd_same, hV, e0]
    · rw [upd_other us _ e]
      rw [upd_other m true e] at hj
      exact h.val j hj hn
  · rw [upd_other m true (Ne.symm hne), hs, ← e0]
    exact heap_alloc_new _ _
theorem LkJ.late (h : LkJ W na ns V CX ZV m us w) (hm : m na = false) : m ns = false := by
  cases e : m ns with
  | false => rfl
  | true => have := h.ord e; rw [hm] at this; cases this
theorem LkJ.rowZ (h : LkJ W na ns V CX ZV m us w) (hm : m na = true) (hs : m ns = false) : w.heap[W.heap.size]? = some (.cells ZV 48 (0, 0)) := by
  have := h.row hm
  rw [hs] at this
  exact this
theorem LkJ.sto (h : LkJ W na ns V CX ZV m us w) (hm : m na = true) (hs : m ns = false) (hne : na ≠ ns) : LkJ W na ns V CX ZV (upd m ns true) (upd us ns undef) (w.setRow W.heap.size CX) := by
  refine ⟨h.os, h.tape, h.output, ?_, fun k hk => ?_, fun j hj hn => ?_, fun _ => by rw [upd_other m true hne]; exact hm, fun _ => ?_⟩
  · rw [upd_other m true hne, ← h.size]; simp
  · rw [setRow_other _ _ _ _ (by omega)]; exact h.block k hk
  · rw [upd_other us _ hn]
    rw [upd_other m true hn] at hj
    exact h.val j hj hn
  · rw [upd_same]
    exact setRow_heap _ _ _ _ _ _ (h.rowZ hm hs)
theorem LkJ.cell (h : LkJ W na ns V CX ZV m us w) {g k : Nat} {v : Value} (hg : g < W.heap.size) (hc : W.cell? ⟨g, k, none⟩ = some v) : w.cell? ⟨g, k, none⟩ = some v := by
  rw [World.cell?_of_block (w := W) (h.block g hg)]; exact hc
theorem LkJ.below (h : LkJ W na ns V CX ZV m us w) : Below W.heap.size W w := ⟨h.os, h.tape, h.output, by rw [h.size]; omega, h.block⟩
end
def mtV (t b g7 gn : Nat) (CK CM CX : Array Value) (q : Bool) (ln : Int) : Nat → Value
  | 0 => .pointer (some ⟨t, 0, none⟩)
  | 1 => .pointer (some ⟨t, 0, none⟩)
  | 2 => .pointer (some ⟨t, 3, none⟩)
  | 3 => .map (some b)
  | 4 => .agg CK
  | 5 => .tuple #[.agg CX, .bool q]
  | 6 => .tuple #[.agg CX, .bool q]
  | 7 => .agg CX
  | 8 => .bool q
  | 9 => .pointer (some ⟨gn, 0, none⟩)
  | 11 => .bool q
  | _ => undef
def mtT : List (Option Nat) := [none, none, none, none, none, some 9, some 11, some 6, some 0, some 1, some 2, some 3, some 4, some 5, some 7, some 8, none, none, none, none, none, none, none]
def mrV (t b g7 gn : Nat) (CK CM CX : Array Value) (q : Bool) (ln : Int) : Nat → Value
  | 0 => .pointer (some ⟨t, 0, none⟩)
  | 1 => .pointer (some ⟨t, 0, none⟩)
  | 2 => .pointer (some ⟨t, 3, none⟩)
  | 3 => .map (some b)
  | 4 => .agg CK
  | 5 => .tuple #[.agg CX, .bool q]
  | 6 => .tuple #[.agg CX, .bool q]
  | 7 => .agg CX
  | 8 => .bool q
  | 9 => .pointer (some ⟨gn, 0, none⟩)
  | 11 => .bool q
  | _ => undef
def mrT : List (Option Nat) := [none, none, none, none, some 9, some 11, some 6, some 0, some 1, some 2, some 3, some 4, some 5, some 7, some 8, none, none, none, none, none, none, none, none, none, none, none, none, none, none, none, none, none, none, none, none, none, none]
set_option maxRecDepth 100000 in
set_option maxHeartbeats 4000000 in
theorem mtu_any (w : World) (B t b : Nat) (n : Int) (q : Bool) (c : Nat) (h : CC w B t b n q c) : Calls Try.prog 16 #[.pointer (some ⟨t, 0, none⟩), .agg zAdr] w (Ret w (.int .i64 (if q then 576 else 1500))) := by
  obtain ⟨CK, hCK⟩ : ∃ C, C = zAdr := ⟨_, rfl⟩
  rw [← hCK]
  obtain ⟨W, hW⟩ : ∃ W, W = w.alloc (.cells CK 24) := ⟨_, rfl⟩
  obtain ⟨gk, hgk⟩ : ∃ g, g = w.heap.size := ⟨_, rfl⟩
  have HB := Lib.hid (show Below w.heap.size w W by rw [hW]; exact alloc_below _ _)
  have RK5 := Lib.hid (show W.heap[gk]? = some (.cells CK 24 (0, 0)) by rw [hW, hgk]; exact heap_alloc_new _ _)
  have HT := Lib.hid (h.below HB.out)
  have IK := Lib.hid (show (Try.prog.info? 24).map (·.size) = some CK.size by rw [hCK]; kernel_rfl)
  obtain ⟨ZV, hZV⟩ : ∃ Z, Z = fV 0 0 := ⟨_, rfl⟩
  obtain ⟨CX, hCX⟩ : ∃ Z, Z = lk q := ⟨_, rfl⟩
  have LKD := Lib.hid (fun (w' : World) (hm : w'.heap[b]? = some (.map (ents q) c)) => (show (Instr.lookup 32 (.map (some b)) (.agg CK) true).run Try.prog w' = .ok (.tuple #[.agg CX, .bool q]) w' by rw [hCK, hCX]; exact run_look hm))
  have IX := Lib.hid (show (Try.prog.info? 48).map (·.size) = some CX.size by rw [hCX]; cases q <;> exact fact_info _ _)
  have ZX := Lib.hid (show ZV.size = CX.size by rw [hCX, hZV]; cases q <;> rfl)
  have OX := Lib.hid (show CX.all (·.oneCell') = true by rw [hCX]; cases q <;> simp [lk, fV, Value.oneCell'])
  have hzv : ∀ w, (zeroValue 48).run Try.prog w = .ok (.agg ZV) w := by rw [hZV]; exact zeroFact
  have CX0 := Lib.hid (show q = true → CX[0]? = some (.int .i64 576) from fun e => by rw [hCX, e]; rfl)
  clear h hCK hZV hCX
  go_enter Try.func16, Try.ntmps16
  go_upto_region 1 with fail
  rw [← hW, ← hgk]
  clear hW hgk
  obtain ⟨g7, hg7⟩ : ∃ g, g = gk := ⟨_, rfl⟩
  obtain ⟨CM, hCM⟩ : ∃ C, C = CK := ⟨_, rfl⟩
  obtain ⟨ln, hln⟩ : ∃ l : Int, l = 0 := ⟨_, rfl⟩
  have C1 := Lib.hid (fun (w' : World) {m us} (hJ : LkJ W 9 10 (mtV t b g7 W.heap.size CK CM CX q ln) CX ZV m us w') => hJ.cell HT.out.lt HT.out.known)
  have RK := Lib.hid (fun (w' : World) {m us} (hJ : LkJ W 9 10 (mtV t b g7 W.heap.size CK CM CX q ln) CX ZV m us w') => (hJ.block gk (lt_of_row RK5.out)).trans RK5.out)
  have LK := Lib.hid (fun (w' : World) {m us} (hJ : LkJ W 9 10 (mtV t b g7 W.heap.size CK CM CX q ln) CX ZV m us w') => LKD.out w' ((hJ.block b HT.out.ltb).trans HT.out.map))
  refine with_act fun a0 ha0 => ?_
  have hl : mtT.length = a0.tmps.size := by rw [ha0]; rfl
  have k0 : a0.tmps[0]?.getD undef = .pointer (some ⟨t, 0, none⟩) := by rw [ha0]; rfl
  have k3 : a0.tmps[3]?.getD undef = .pointer (some ⟨gk, 0, none⟩) := by rw [ha0]; rfl
  refine wp_region_J (by kernel_rfl) mtT (by kernel_rfl) (by kernel_rfl) hl (fun i => undef) (by rw [ha0]; rfl) (LkJ W 9 10 (mtV t b g7 W.heap.size CK CM CX q ln) CX ZV) (LkJ.start _ _ _ _ _ _ _) ⟨?_, ?_, ?_, ?_, ?_, ?_, ?_, ?_, ?_, ?_, ?_, ?_, trivial⟩ ?_
  · refine stepJ [] (by kernel_rfl) rfl fun m us w' hJ hmi hd => ?_
    have o0 := (frame_old2 (us := us) (a := a0) (show (mtT[0]?).join = none from rfl)).trans k0
    generalize frame mtT a0 us = fr at *
    exact val_J (v := .pointer (some ⟨t, 0, none⟩)) (w' := w') (by go_simp) (hJ.val_ 0 (by decide) (by decide) _ rfl)
  · refine stepJ [0] (by kernel_rfl) rfl fun m us w' hJ hmi hd => ?_
    have e0 : us 0 = .pointer (some ⟨t, 0, none⟩) := hJ.val 0 (hd 0 (by simp)) (by decide)
    have v0 := (frame_at2 (us := us) hl (show (mtT[8]?).join = some 0 from rfl)).trans e0
    generalize frame mtT a0 us = fr at *
    exact val_J (v := .pointer (some ⟨t, 0, none⟩)) (w' := w') (by go_simp) (hJ.val_ 1 (by decide) (by decide) _ rfl)
  · refine stepJ [1] (by kernel_rfl) rfl fun m us w' hJ hmi hd => ?_
    have e1 : us 1 = .pointer (some ⟨t, 0, none⟩) := hJ.val 1 (hd 1 (by simp)) (by decide)
    have v1 := (frame_at2 (us := us) hl (show (mtT[9]?).join = some 1 from rfl)).trans e1
    generalize frame mtT a0 us = fr at *
    exact val_J (v := .pointer (some ⟨t, 3, none⟩)) (w' := w') (by go_simp) (hJ.val_ 2 (by decide) (by decide) _ rfl)
  · refine stepJ [2] (by kernel_rfl) rfl fun m us w' hJ hmi hd => ?_
    have e2 : us 2 = .pointer (some ⟨t, 3, none⟩) := hJ.val 2 (hd 2 (by simp)) (by decide)
    have v2 := (frame_at2 (us := us) hl (show (mtT[10]?).join = some 2 from rfl)).trans e2
    have hc := C1.out w' hJ
    generalize frame mtT a0 us = fr at *
    exact val_J (v := .map (some b)) (w' := w') (by go_simp) (hJ.val_ 3 (by decide) (by decide) _ rfl)
  · refine stepJ [] (by kernel_rfl) rfl fun m us w' hJ hmi hd => ?_
    have o3 := (frame_old2 (us := us) (a := a0) (show (mtT[3]?).join = none from rfl)).trans k3
    have hc := RK.out w' hJ
    generalize frame mtT a0 us = fr at *
    exact load_J 24 3 rfl gk o3 _ CK (0, 0) _ hc Try.underlying24 rfl IK.out (hJ.val_ 4 (by decide) (by decide) _ rfl)
  · refine stepJ [3, 4] (by kernel_rfl) rfl fun m us w' hJ hmi hd => ?_
    have e3 : us 3 = .map (some b) := hJ.val 3 (hd 3 (by simp)) (by decide)
    have v3 := (frame_at2 (us := us) hl (show (mtT[11]?).join = some 3 from rfl)).trans e3
    have e4 : us 4 = .agg CK := hJ.val 4 (hd 4 (by simp)) (by decide)
    have v4 := (frame_at2 (us := us) hl (show (mtT[12]?).join = some 4 from rfl)).trans e4
    have hc := LK.out w' hJ
    generalize frame mtT a0 us = fr at *
    exact val_J (v := .tuple #[.agg CX, .bool q]) (w' := w') (look_run rfl v3 v4 hc) (hJ.val_ 5 (by decide) (by decide) _ rfl)
  · refine stepJ [5] (by kernel_rfl) rfl fun m us w' hJ hmi hd => ?_
    have e5 : us 5 = .tuple #[.agg CX, .bool q] := hJ.val 5 (hd 5 (by simp)) (by decide)
    have v5 := (frame_at2 (us := us) hl (show (mtT[13]?).join = some 5 from rfl)).trans e5
    generalize frame mtT a0 us = fr at *
    exact val_J (v := .tuple #[.agg CX, .bool q]) (w' := w') (by go_simp) (hJ.val_ 6 (by decide) (by decide) _ rfl)
  · refine stepJ [6] (by kernel_rfl) rfl fun m us w' hJ hmi hd => ?_
    have e6 : us 6 = .tuple #[.agg CX, .bool q] := hJ.val 6 (hd 6 (by simp)) (by decide)
    have v6 := (frame_at2 (us := us) hl (show (mtT[7]?).join = some 6 from rfl)).trans e6
    generalize frame mtT a0 us = fr at *
    exact val_J (v := .agg CX) (w' := w') (by go_simp) (hJ.val_ 7 (by decide) (by decide) _ rfl)
  · refine stepJ [6] (by kernel_rfl) rfl fun m us w' hJ hmi hd => ?_
    have e6 : us 6 = .tuple #[.agg CX, .bool q] := hJ.val 6 (hd 6 (by simp)) (by decide)
    have v6 := (frame_at2 (us := us) hl (show (mtT[7]?).join = some 6 from rfl)).trans e6
    generalize frame mtT a0 us = fr at *
    exact val_J (v := .bool q) (w' := w') (by go_simp) (hJ.val_ 8 (by decide) (by decide) _ rfl)
  · refine stepJ [] (by kernel_rfl) rfl fun m us w' hJ hmi hd => ?_
    generalize frame mtT a0 us = fr at *
    exact val_J (v := .pointer (some ⟨w'.heap.size, 0, none⟩)) (w' := w'.alloc (.cells ZV 48)) (by go_simp) (hJ.all hmi rfl (by decide) (hJ.late hmi))
  · refine stepJ [9, 7] (by kernel_rfl) rfl fun m us w' hJ hmi hd => ?_
    have e9 : us 9 = .pointer (some ⟨W.heap.size, 0, none⟩) := hJ.val 9 (hd 9 (by simp)) (by decide)
    have v9 := (frame_at2 (us := us) hl (show (mtT[5]?).join = some 9 from rfl)).trans e9
    have e7 : us 7 = .agg CX := hJ.val 7 (hd 7 (by simp)) (by decide)
    have v7 := (frame_at2 (us := us) hl (show (mtT[14]?).join = some 7 from rfl)).trans e7
    generalize frame mtT a0 us = fr at *
    exact store_J 48 5 14 rfl _ CX v9 v7 _ ZV (hJ.rowZ (hd 9 (by simp)) hmi) IX.out ZX.out OX.out (hJ.sto (hd 9 (by simp)) hmi (by decide))
  · refine stepJ [8] (by kernel_rfl) rfl fun m us w' hJ hmi hd => ?_
    have e8 : us 8 = .bool q := hJ.val 8 (hd 8 (by simp)) (by decide)
    have v8 := (frame_at2 (us := us) hl (show (mtT[15]?).join = some 8 from rfl)).trans e8
    generalize frame mtT a0 us = fr at *
    exact val_J (v := .bool q) (w' := w') (by go_simp) (hJ.val_ 11 (by decide) (by decide) _ rfl)
  · intro m us w6 hm hJ
    have e11 : us 11 = .bool q := hJ.val 11 (hm 11 (by decide)) (by decide)
    have e9 : us 9 = .pointer (some ⟨W.heap.size, 0, none⟩) := hJ.val 9 (hm 9 (by decide)) (by decide)
    have HB6 := Lib.hid hJ.below
    have hrow6 := hJ.row (hm 9 (by decide))
    rw [hm 10 (by decide)] at hrow6
    have R6 := Lib.hid hrow6
    clear hrow6 hJ hm hzv
    subst ha0
    simp only [frame, mtT, fill]
    rw [e11, e9]
    clear e11 e9
    have HT6 := Lib.hid (HT.out.below HB6.out)
    cases q
    · have c1 := HT6.out.own
      go_wp2_with fail
      go_ret
      exact ⟨rfl, HB.out.trans (HB6.out.mono HB.out.size)⟩
    · have c1 : w6.cell? ⟨W.heap.size, 0, none⟩ = some (.int .i64 576) := by rw [cell_of_row w6 _ 0 _ _ (0, 0) R6.out]; exact CX0.out rfl
      go_wp2_with fail
      go_ret
      exact ⟨rfl, HB.out.trans (HB6.out.mono HB.out.size)⟩
set_option maxRecDepth 100000 in
set_option maxHeartbeats 4000000 in
theorem room_any (w : World) (B t b : Nat) (n : Int) (q : Bool) (c : Nat) (h : CC w B t b n q c) : Calls Try.prog 17 #[.pointer (some ⟨t, 0, none⟩), .agg zAdr] w fun e w' => (∃ v, e = .returned v) ∧ Below w.heap.size w w' := by
  obtain ⟨CK, hCK⟩ : ∃ C, C = zAdr := ⟨_, rfl⟩
  rw [← hCK]
  obtain ⟨W, hW⟩ : ∃ W, W = w.alloc (.cells CK 24) := ⟨_, rfl⟩
  obtain ⟨gk, hgk⟩ : ∃ g, g = w.heap.size := ⟨_, rfl⟩
  have HB := Lib.hid (show Below w.heap.size w W by rw [hW]; exact alloc_below _ _)
  have RK5 := Lib.hid (show W.heap[gk]? = some (.cells CK 24 (0, 0)) by rw [hW, hgk]; exact heap_alloc_new _ _)
  have HT := Lib.hid (h.below HB.out)
  have IK := Lib.hid (show (Try.prog.info? 24).map (·.size) = some CK.size by rw [hCK]; kernel_rfl)
  obtain ⟨ZV, hZV⟩ : ∃ Z, Z = fV 0 0 := ⟨_, rfl⟩
  obtain ⟨CX, hCX⟩ : ∃ Z, Z = lk q := ⟨_, rfl⟩
  have LKD := Lib.hid (fun (w' : World) (hm : w'.heap[b]? = some (.map (ents q) c)) => (show (Instr.lookup 32 (.map (some b)) (.agg CK) true).run Try.prog w' = .ok (.tuple #[.agg CX, .bool q]) w' by rw [hCK, hCX]; exact run_look hm))
  have IX := Lib.hid (show (Try.prog.info? 48).map (·.size) = some CX.size by rw [hCX]; cases q <;> exact fact_info _ _)
  have ZX := Lib.hid (show ZV.size = CX.size by rw [hCX, hZV]; cases q <;> rfl)
  have OX := Lib.hid (show CX.all (·.oneCell') = true by rw [hCX]; cases q <;> simp [lk, fV, Value.oneCell'])
  have hzv : ∀ w, (zeroValue 48).run Try.prog w = .ok (.agg ZV) w := by rw [hZV]; exact zeroFact
  have CX0 := Lib.hid (show q = true → CX[0]? = some (.int .i64 576) from fun e => by rw [hCX, e]; rfl)
  clear h hCK hZV hCX
  go_enter Try.func17, Try.ntmps17
  go_upto_region 1 with fail
  rw [← hW, ← hgk]
  clear hW hgk
  obtain ⟨g7, hg7⟩ : ∃ g, g = gk := ⟨_, rfl⟩
  obtain ⟨CM, hCM⟩ : ∃ C, C = CK := ⟨_, rfl⟩
  obtain ⟨ln, hln⟩ : ∃ l : Int, l = 0 := ⟨_, rfl⟩
  have C1 := Lib.hid (fun (w' : World) {m us} (hJ : LkJ W 9 10 (mrV t b g7 W.heap.size CK CM CX q ln) CX ZV m us w') => hJ.cell HT.out.lt HT.out.known)
  have RK := Lib.hid (fun (w' : World) {m us} (hJ : LkJ W 9 10 (mrV t b g7 W.heap.size CK CM CX q ln) CX ZV m us w') => (hJ.block gk (lt_of_row RK5.out)).trans RK5.out)
  have LK := Lib.hid (fun (w' : World) {m us} (hJ : LkJ W 9 10 (mrV t b g7 W.heap.size CK CM CX q ln) CX ZV m us w') => LKD.out w' ((hJ.block b HT.out.ltb).trans HT.out.map))
  refine with_act fun a0 ha0 => ?_
  have hl : mrT.length = a0.tmps.size := by rw [ha0]; rfl
  have k0 : a0.tmps[0]?.getD undef = .pointer (some ⟨t, 0, none⟩) := by rw [ha0]; rfl
  have k3 : a0.tmps[3]?.getD undef = .pointer (some ⟨gk, 0, none⟩) := by rw [ha0]; rfl
  refine wp_region_J (by kernel_rfl) mrT (by kernel_rfl) (by kernel_rfl) hl (fun i => undef) (by rw [ha0]; rfl) (LkJ W 9 10 (mrV t b g7 W.heap.size CK CM CX q ln) CX ZV) (LkJ.start _ _ _ _ _ _ _) ⟨?_, ?_, ?_, ?_, ?_, ?_, ?_, ?_, ?_, ?_, ?_, ?_, trivial⟩ ?_
  · refine stepJ [] (by kernel_rfl) rfl fun m us w' hJ hmi hd => ?_
    have o0 := (frame_old2 (us := us) (a := a0) (show (mrT[0]?).join = none from rfl)).trans k0
    generalize frame mrT a0 us = fr at *
    exact val_J (v := .pointer (some ⟨t, 0, none⟩)) (w' := w') (by go_simp) (hJ.val_ 0 (by decide) (by decide) _ rfl)
  · refine stepJ [0] (by kernel_rfl) rfl fun m us w' hJ hmi hd => ?_
    have e0 : us 0 = .pointer (some ⟨t, 0, none⟩) := hJ.val 0 (hd 0 (by simp)) (by decide)
    have v0 := (frame_at2 (us := us) hl (show (mrT[7]?).join = some 0 from rfl)).trans e0
    generalize frame mrT a0 us = fr at *
    exact val_J (v := .pointer (some ⟨t, 0, none⟩)) (w' := w') (by go_simp) (hJ.val_ 1 (by decide) (by decide) _ rfl)
  · refine stepJ [1] (by kernel_rfl) rfl fun m us w' hJ hmi hd => ?_
    have e1 : us 1 = .pointer (some ⟨t, 0, none⟩) := hJ.val 1 (hd 1 (by simp)) (by decide)
    have v1 := (frame_at2 (us := us) hl (show (mrT[8]?).join = some 1 from rfl)).trans e1
    generalize frame mrT a0 us = fr at *
    exact val_J (v := .pointer (some ⟨t, 3, none⟩)) (w' := w') (by go_simp) (hJ.val_ 2 (by decide) (by decide) _ rfl)
  · refine stepJ [2] (by kernel_rfl) rfl fun m us w' hJ hmi hd => ?_
    have e2 : us 2 = .pointer (some ⟨t, 3, none⟩) := hJ.val 2 (hd 2 (by simp)) (by decide)
    have v2 := (frame_at2 (us := us) hl (show (mrT[9]?).join = some 2 from rfl)).trans e2
    have hc := C1.out w' hJ
    generalize frame mrT a0 us = fr at *
    exact val_J (v := .map (some b)) (w' := w') (by go_simp) (hJ.val_ 3 (by decide) (by decide) _ rfl)
  · refine stepJ [] (by kernel_rfl) rfl fun m us w' hJ hmi hd => ?_
    have o3 := (frame_old2 (us := us) (a := a0) (show (mrT[3]?).join = none from rfl)).trans k3
    have hc := RK.out w' hJ
    generalize frame mrT a0 us = fr at *
    exact load_J 24 3 rfl gk o3 _ CK (0, 0) _ hc Try.underlying24 rfl IK.out (hJ.val_ 4 (by decide) (by decide) _ rfl)
  · refine stepJ [3, 4] (by kernel_rfl) rfl fun m us w' hJ hmi hd => ?_
    have e3 : us 3 = .map (some b) := hJ.val 3 (hd 3 (by simp)) (by decide)
    have v3 := (frame_at2 (us := us) hl (show (mrT[10]?).join = some 3 from rfl)).trans e3
    have e4 : us 4 = .agg CK := hJ.val 4 (hd 4 (by simp)) (by decide)
    have v4 := (frame_at2 (us := us) hl (show (mrT[11]?).join = some 4 from rfl)).trans e4
    have hc := LK.out w' hJ
    generalize frame mrT a0 us = fr at *
    exact val_J (v := .tuple #[.agg CX, .bool q]) (w' := w') (look_run rfl v3 v4 hc) (hJ.val_ 5 (by decide) (by decide) _ rfl)
  · refine stepJ [5] (by kernel_rfl) rfl fun m us w' hJ hmi hd => ?_
    have e5 : us 5 = .tuple #[.agg CX, .bool q] := hJ.val 5 (hd 5 (by simp)) (by decide)
    have v5 := (frame_at2 (us := us) hl (show (mrT[12]?).join = some 5 from rfl)).trans e5
    generalize frame mrT a0 us = fr at *
    exact val_J (v := .tuple #[.agg CX, .bool q]) (w' := w') (by go_simp) (hJ.val_ 6 (by decide) (by decide) _ rfl)
  · refine stepJ [6] (by kernel_rfl) rfl fun m us w' hJ hmi hd => ?_
    have e6 : us 6 = .tuple #[.agg CX, .bool q] := hJ.val 6 (hd 6 (by simp)) (by decide)
    have v6 := (frame_at2 (us := us) hl (show (mrT[6]?).join = some 6 from rfl)).trans e6
    generalize frame mrT a0 us = fr at *
    exact val_J (v := .agg CX) (w' := w') (by go_simp) (hJ.val_ 7 (by decide) (by decide) _ rfl)
  · refine stepJ [6] (by kernel_rfl) rfl fun m us w' hJ hmi hd => ?_
    have e6 : us 6 = .tuple #[.agg CX, .bool q] := hJ.val 6 (hd 6 (by simp)) (by decide)
    have v6 := (frame_at2 (us := us) hl (show (mrT[6]?).join = some 6 from rfl)).trans e6
    generalize frame mrT a0 us = fr at *
    exact val_J (v := .bool q) (w' := w') (by go_simp) (hJ.val_ 8 (by decide) (by decide) _ rfl)
  · refine stepJ [] (by kernel_rfl) rfl fun m us w' hJ hmi hd => ?_
    generalize frame mrT a0 us = fr at *
    exact val_J (v := .pointer (some ⟨w'.heap.size, 0, none⟩)) (w' := w'.alloc (.cells ZV 48)) (by go_simp) (hJ.all hmi rfl (by decide) (hJ.late hmi))
  · refine stepJ [9, 7] (by kernel_rfl) rfl fun m us w' hJ hmi hd => ?_
    have e9 : us 9 = .pointer (some ⟨W.heap.size, 0, none⟩) := hJ.val 9 (hd 9 (by simp)) (by decide)
    have v9 := (frame_at2 (us := us) hl (show (mrT[4]?).join = some 9 from rfl)).trans e9
    have e7 : us 7 = .agg CX := hJ.val 7 (hd 7 (by simp)) (by decide)
    have v7 := (frame_at2 (us := us) hl (show (mrT[13]?).join = some 7 from rfl)).trans e7
    generalize frame mrT a0 us = fr at *
    exact store_J 48 4 13 rfl _ CX v9 v7 _ ZV (hJ.rowZ (hd 9 (by simp)) hmi) IX.out ZX.out OX.out (hJ.sto (hd 9 (by simp)) hmi (by decide))
  · refine stepJ [8] (by kernel_rfl) rfl fun m us w' hJ hmi hd => ?_
    have e8 : us 8 = .bool q := hJ.val 8 (hd 8 (by simp)) (by decide)
    have v8 := (frame_at2 (us := us) hl (show (mrT[14]?).join = some 8 from rfl)).trans e8
    generalize frame mrT a0 us = fr at *
    exact val_J (v := .bool q) (w' := w') (by go_simp) (hJ.val_ 11 (by decide) (by decide) _ rfl)
  · intro m us w6 hm hJ
    have e11 : us 11 = .bool q := hJ.val 11 (hm 11 (by decide)) (by decide)
    have e9 : us 9 = .pointer (some ⟨W.heap.size, 0, none⟩) := hJ.val 9 (hm 9 (by decide)) (by decide)
    have HB6 := Lib.hid hJ.below
    have hrow6 := hJ.row (hm 9 (by decide))
    rw [hm 10 (by decide)] at hrow6
    have R6 := Lib.hid hrow6
    clear hrow6 hJ hm hzv
    subst ha0
    simp only [frame, mrT, fill]
    rw [e11, e9]
    clear e11 e9
    have HT6 := Lib.hid (HT.out.below HB6.out)
    cases q
    · have c1 := HT6.out.known
      have hl : ∀ ty, (Builtin.len_ #[32] ty #[.map (some b)]).run Try.prog w6 = .ok (.int .i64 0) w6 := fun ty => run_mlen HT6.out.map ty
      go_wp2_with go_skip
      refine bodyPost_ret (results_none rfl _ _ _) rfl ?_
      exact ⟨⟨_, rfl⟩, HB.out.trans (HB6.out.mono HB.out.size)⟩
    · go_wp2_with go_skip
      refine bodyPost_ret (results_none rfl _ _ _) rfl ?_
      exact ⟨⟨_, rfl⟩, HB.out.trans (HB6.out.mono HB.out.size)⟩
end Go.Proofs.Ytljcekmiockdjaa.pmC
