/-
  2 texts of a proof, joined.
-/
import Derived.Test.YtmkekdmkefkfiaaDoorMg5
import Derived.Test.YtmkekdmkefkfiaaDoorMg6

/-
  The document's addresses: the groups of a text.
-/
namespace Go.Proofs.YtmkekdmkefkfiaaDoor.adC
open Go.ChangeShapes Go.WideShapes Go.ChangeAt Go.RowKit
open Go.Proofs.YtmkekdmkefkfiaaDoor.memC Go.Proofs.YtmkekdmkefkfiaaDoor.genC Go.Proofs.YtmkekdmkefkfiaaDoor.butC Go.Proofs.YtmkekdmkefkfiaaDoor.freeC Go.Proofs.YtmkekdmkefkfiaaDoor.txC
set_option linter.unusedVariables false
theorem word_inf : (Tryd.prog.info? 47).map (fun i => (i.zero, i.size, i.bytes)) = some (some (.int .u16 0), 1, 2) := by kernel_rfl
/-- the groups of parts, behind those that there are; none: one is no group -/
def gacc : List (List Int) → List Int → Option (List Int)
  | [], acc => some acc
  | l :: r, acc => if gofL l < 0 then none else gacc r (acc ++ [gofL l])
def grsL (xs : List Int) : Option (List Int) := if xs = [] then some [] else gacc (splL 58 xs) []
theorem gacc_ok : ∀ (ls : List (List Int)) (acc gs : List Int), gacc ls acc = some gs → (∀ x ∈ acc, W16 x) → (∀ x ∈ gs, W16 x) ∧ gs.length = acc.length + ls.length
  | [], acc, gs, h, ha => by
    have : acc = gs := Option.some.inj h
    subst this
    exact ⟨ha, rfl⟩
  | l :: r, acc, gs, h, ha => by
    unfold gacc at h
    split at h
    · cases h
    · rename_i hn
      have hb := gofL_le l
      obtain ⟨h1, h2⟩ := gacc_ok r _ gs h fun x hx => by
        rcases List.mem_append.1 hx with h3 | h3
        · exact ha x h3
        · rw [List.mem_singleton.1 h3]; unfold W16; omega
      refine ⟨h1, ?_⟩
      rw [h2, List.length_append]; simp; omega
theorem grsL_ok {xs gs : List Int} (h : grsL xs = some gs) : (∀ x ∈ gs, W16 x) ∧ gs.length ≤ xs.length + 1 := by
  unfold grsL at h
  split at h
  · obtain rfl := Option.some.inj h; simp
  · obtain ⟨h1, h2⟩ := gacc_ok _ _ _ h (by simp)
    have h3 := splL_len 58 xs
    refine ⟨h1, ?_⟩
    simp at h2; omega
def GrsRet (w : World) (o : Option (List Int)) (e : Ending) (w' : World) : Prop :=
  match o with
  | some gs => ∃ A n c, e = .returned (.tuple #[.slice A n c, .bool true]) ∧ gs.length = n ∧ n ≤ c ∧ c ≤ maxLen ∧ Own .u16 47 w' w.heap.size (.slice A n c) gs ∧ Below w.heap.size w w'
  | none => e = .returned (.tuple #[.slice none 0 0, .bool false]) ∧ Below w.heap.size w w'
set_option maxRecDepth 100000 in
set_option maxHeartbeats 2000000 in
theorem groups_any (xs : List Int) (w : World) (hy : ∀ x ∈ xs, Byte x) (hn : xs.length ≤ 9000) : Calls Tryd.prog 44 #[.string (strOfNums xs)] w (GrsRet w (grsL xs)) := by
  by_cases hs : xs = []
  · have HG : grsL xs = some [] := by unfold grsL; rw [if_pos hs]
    have hn0 : (strOfNums xs).toList = [] := (str_emp xs).2 hs
    have hn1 : (strOfNums xs).toList.isEmpty = true := by rw [hn0]; rfl
    rw [HG]
    generalize strOfNums xs = S0 at *
    clear hs HG hy
    go_enter Tryd.func44, Tryd.ntmps44
    go_wp2_with fail
    go_ret2
    exact ⟨none, 0, 0, rfl, rfl, Nat.le_refl _, Nat.zero_le _, Own.nil _ _, Below.refl _ _⟩
  · obtain ⟨R, hR⟩ : ∃ R, R = grsL xs := ⟨_, rfl⟩
    have hn0 : ¬ (strOfNums xs).toList = [] := by rw [str_emp]; exact hs
    have hn1 : (strOfNums xs).toList.isEmpty = false := by simpa using hn0
    have SP := Lib.hid (split_any xs 58 w hy (by decide) (by decide) (by omega))
    have LS := Lib.hid (splL_len 58 xs)
    have LP := Lib.hid (splL_pos 58 xs)
    have LB := Lib.hid (splL_byte 58 hy)
    have HRR := Lib.hid (show gacc ((splL 58 xs).drop 0) [] = R by rw [hR]; unfold grsL; rw [if_neg hs]; rfl)
    have PL := Lib.hid (show ∀ l ∈ splL 58 xs, l.length ≤ 10000 from fun l hl => by rcases spl_part 58 xs [] [] l hl with h | h <;> simp at h; omega)
    rw [← hR]
    generalize splL 58 xs = ls at *
    generalize strOfNums xs = S0 at *
    obtain ⟨i0, hi0, hz0, hz1, hz2⟩ := info_parts word_inf
    have T1 := Lib.hid hi0; have T2 := Lib.hid hz0; have T3 := Lib.hid hz1; have T4 := Lib.hid hz2
    clear hs hR hy hi0 hz0 hz1 hz2
    go_enter Tryd.func44, Tryd.ntmps44
    go_upto_region 5 with (first
      | (go_at_call 28; (with_reducible refine SP.out.mono ?_); rintro e w1 ⟨A1, L, c1, rfl, hL, O1, B1⟩))
    have hLp : 0 < L := by have := LP.out; omega
    have hL1 : L ≤ 9001 := by have := LS.out; omega
    obtain ⟨g, rfl, hg1, hg2, hcell, hfr⟩ := O1.row hL hLp
    have HB1 := Lib.hid B1
    have CL := Lib.hid (fun (j : Nat) (hj : j < L) (w' : World) (B : Below w1.heap.size w1 w') => (show w'.cell? ⟨g, j, none⟩ = some (.string (strOfNums (ls.getD j []))) from (B.cell (p := ⟨g, j, none⟩) hg2).trans (hcell j hj)))
    have DR := Lib.hid (fun (j : Nat) (hj : j < L) => (show ls.drop j = ls.getD j [] :: ls.drop (j + 1) by
      rw [List.getD_eq_getElem?_getD, List.getElem?_eq_getElem (by omega)]
      exact List.drop_eq_getElem_cons (by omega)))
    have DE := Lib.hid (show ∀ j, L ≤ j → ls.drop j = [] from fun j hj => List.drop_eq_nil_of_le (by omega))
    have MB := Lib.hid (fun (j : Nat) (hj : j < L) => (show ls.getD j [] ∈ ls by
      rw [List.getD_eq_getElem?_getD, List.getElem?_eq_getElem (by omega)]
      exact List.getElem_mem _))
    clear hL O1 B1 hcell hfr hn0 hn1
    go_wp2_with fail
    go_loopw [4, 6] (fun v iv wr => ∃ (i : Nat) (acc : List Int) (A : Option Addr) (c : Nat), i ≤ L ∧ iv = .int .i64 i ∧ v = .slice A i c ∧ acc.length = i ∧ i ≤ c ∧ c ≤ maxLen ∧ Own .u16 47 wr w1.heap.size (.slice A i c) acc ∧ gacc (ls.drop i) acc = R ∧ Below w1.heap.size w1 wr) (fun _ iv _ => L - (intOf iv).toNat)
    case atStart => exact ⟨0, [], none, 0, by omega, rfl, rfl, rfl, Nat.le_refl _, Nat.zero_le _, Own.nil _ _, HRR.out, Below.refl _ _⟩
    case round =>
      obtain ⟨i, acc, A, c, hi, rfl, rfl, hacc, hic, hcm, O, hga, Bw⟩ := hrel
      have HB := Lib.hid Bw
      have HO := Lib.hid O
      have HA := Lib.hid hacc
      have HGA := Lib.hid hga
      have HIC := Lib.hid hic
      have HCM := Lib.hid hcm
      clear O hga hacc hic hcm
      by_cases hlt : i < L
      · have hz : (i : Int) < (L : Int) := by omega
        have cx := CL.out i hlt wr Bw
        have GO := Lib.hid (fun w' => groupOf_any (ls.getD i []) w' (LB.out _ (MB.out i hlt)) (PL.out _ (MB.out i hlt)))
        have hb := gofL_le (ls.getD i [])
        have HGN := Lib.hid (show (if gofL (ls.getD i []) < 0 then none else gacc (ls.drop (i + 1)) (acc ++ [gofL (ls.getD i [])])) = R by
          have h := HGA.out
          rw [DR.out i hlt, gacc] at h; exact h)
        generalize gofL (ls.getD i []) = x at *
        generalize strOfNums (ls.getD i []) = S1 at *
        clear Bw
        by_cases hx : x < 0
        · have HN := Lib.hid (show R = none by have h := HGN.out; rw [if_pos hx] at h; exact h.symm)
          have hxd : decide (x < 0) = true := decide_eq_true hx
          go_wp2_with (first
            | (go_at_call 52; (with_reducible refine (GO.out _).mono ?_); rintro e w3 ⟨rfl, B3⟩
               have B3 := Lib.hid B3))
          go_ret2
          rw [HN.out]
          exact ⟨rfl, HB1.out.trans ((HB.out.trans (B3.out.mono HB.out.size)).mono HB1.out.size)⟩
        · have hxd : decide (x < 0) = false := decide_eq_false hx
          have HN := Lib.hid (show gacc (ls.drop (i + 1)) (acc ++ [x]) = R by have h := HGN.out; rwa [if_neg hx] at h)
          have hw : IntKind.u16.wrap x = x := by rw [IntKind.wrap_u16]; omega
          go_wp2_with (first
            | (go_at_call 52; (with_reducible refine (GO.out _).mono ?_); rintro e w3 ⟨rfl, B3⟩
               have BB3 := Lib.hid (HB.out.trans (B3.mono HB.out.size))
               have O3 := Lib.hid (HO.out.below B3))
            | (at_builtin; (refine wpList_app1T w3 rfl (.tmp 26) (.tmp 29) _ rfl 47 i0 _ 2 Tryd.underlying26 T1.out T2.out T3.out T4.out rfl w1.heap.size (.slice A i c) acc (by rfl) O3.out x (by rfl) (by rw [HA.out]; simp only [maxLen]; omega) (by rw [HA.out]; omega) BB3.out.size (i + 1) (by rw [HA.out]) ?_)
               intro A4 c4 w4 g4 g5 O4 B4
               have HO4 := Lib.hid O4
               have HB4 := Lib.hid (BB3.out.trans B4)
               have HG4 := Lib.hid (And.intro g4 g5)
               clear O4 B4 g4 g5))
          go_roundw
          case rel => exact ⟨i + 1, acc ++ [x], A4, c4, by omega, by go_num, rfl, by rw [List.length_append, HA.out]; rfl, HG4.out.1, HG4.out.2, HO4.out, HN.out, HB4.out⟩
          case measure => simp [intOf]; omega
      · have e : i = L := by omega
        subst e
        have HN := Lib.hid (show R = some acc by have h := HGA.out; rw [DE.out i (Nat.le_refl _)] at h; exact h.symm)
        clear Bw
        go_wp2_with fail
        go_ret2
        rw [HN.out]
        exact ⟨A, i, c, rfl, HA.out, HIC.out, HCM.out, HO.out.less HB1.out.size, HB1.out.trans (HB.out.mono HB1.out.size)⟩
end Go.Proofs.YtmkekdmkefkfiaaDoor.adC

/-
  The document's addresses: parts and tests of texts, as operations; the sixteen bytes of a text, over numbers.
-/
namespace Go.Proofs.YtmkekdmkefkfiaaDoor.adC
open Go.ChangeShapes Go.WideShapes Go.ChangeAt Go.RowKit
open Go.Proofs.YtmkekdmkefkfiaaDoor.memC Go.Proofs.YtmkekdmkefkfiaaDoor.genC Go.Proofs.YtmkekdmkefkfiaaDoor.butC Go.Proofs.YtmkekdmkefkfiaaDoor.freeC Go.Proofs.YtmkekdmkefkfiaaDoor.txC
set_option linter.unusedVariables false
section
variable {P : Program} {o : Oper} {a : Act} {w : World} {T : TypeId} {s x y : Operand} {S S' : ByteArray} {v : Value} {l h : Int}
theorem cut_run (hT : P.underlying T = some .string) (ho : o.op = .slice T s (some x) (some y) none) (hs : a.eval s = .string S) (hx : a.eval x = .int .i64 l) (hy : a.eval y = .int .i64 h)
    (hq : (Instr.slice T (.string S) (some (.int .i64 l)) (some (.int .i64 h)) none).run P w = .ok v w) : (execOp a.eval o).run P w = .ok (.value v) w := by
  unfold execOp
  rw [ho]
  simp only [hs, hx, hy, Option.map_some, Option.map_none, run_sliceAt_string w T _ _ _ _ hT, Sem.run_bind, hq, Result.andThen_ok, Sem.run_pure]
theorem to_run (hT : P.underlying T = some .string) (ho : o.op = .slice T s none (some y) none) (hs : a.eval s = .string S) (hy : a.eval y = .int .i64 h)
    (hq : (Instr.slice T (.string S) none (some (.int .i64 h)) none).run P w = .ok v w) : (execOp a.eval o).run P w = .ok (.value v) w := by
  unfold execOp
  rw [ho]
  simp only [hs, hy, Option.map_some, Option.map_none, run_sliceAt_string w T _ _ _ _ hT, Sem.run_bind, hq, Result.andThen_ok, Sem.run_pure]
theorem from_run (hT : P.underlying T = some .string) (ho : o.op = .slice T s (some x) none none) (hs : a.eval s = .string S) (hx : a.eval x = .int .i64 l)
    (hq : (Instr.slice T (.string S) (some (.int .i64 l)) none none).run P w = .ok v w) : (execOp a.eval o).run P w = .ok (.value v) w := by
  unfold execOp
  rw [ho]
  simp only [hs, hx, Option.map_some, Option.map_none, run_sliceAt_string w T _ _ _ _ hT, Sem.run_bind, hq, Result.andThen_ok, Sem.run_pure]
theorem neq_run {R : TypeId} {q : Bool} (ho : o.op = .binOp .neq T s x R) (hs : a.eval s = .string S) (hx : a.eval x = .string S') (hq : (S.toList == S'.toList) = q) : (execOp a.eval o).run P w = .ok (.value (.bool !q)) w := by
  unfold execOp
  rw [ho]
  simp only [hs, hx]
  go_simp
end
/-- s[:e] -/
theorem str_to {xs : List Int} {hi : Nat} (h2 : hi ≤ xs.length) {hz : Int} (hh : hz = (hi : Int)) (w : World) :
    (Instr.slice 9 (.string (strOfNums xs)) none (some (.int .i64 hz)) none).run Tryd.prog w = .ok (.string (strOfNums (xs.take hi))) w := by
  subst hh
  have hsz := strOfNums_size xs
  rw [run_slice_string_h w _ _ Tryd.underlying9 _ _ (by omega) (by omega)]
  refine congrArg (fun q : ByteArray => Result.ok (Value.string q) w) ?_
  apply ByteArray.ext
  simp [strOfNums, ByteArray.data_extract, List.extract_eq_take_drop, List.map_take]
/-- s[f:] -/
theorem str_from {xs : List Int} {lo : Nat} (h2 : lo ≤ xs.length) {lz : Int} (hl : lz = (lo : Int)) (w : World) :
    (Instr.slice 9 (.string (strOfNums xs)) (some (.int .i64 lz)) none none).run Tryd.prog w = .ok (.string (strOfNums (xs.drop lo))) w := by
  subst hl
  have hsz := strOfNums_size xs
  rw [run_slice_string_l w _ _ Tryd.underlying9 _ _ (by omega) (by omega), hsz]
  refine congrArg (fun q : ByteArray => Result.ok (Value.string q) w) ?_
  apply ByteArray.ext
  simp only [strOfNums, ByteArray.data_extract, Int.toNat_natCast]
  apply Array.toList_inj.1
  rw [Array.toList_extract, List.extract_eq_take_drop, List.map_drop]
  exact List.take_of_length_le (by rw [List.length_drop, List.length_map]; exact Nat.le_refl _)
/-- the groups of a text that has a gap at a place -/
def gapG (xs : List Int) (i : Nat) : Option (List Int) :=
  match grsL (xs.take i), grsL (xs.drop (i + 2)) with
  | some a, some b => if 7 < a.length + b.length then none else some ((a ++ zs (8 - (a.length + b.length))) ++ b)
  | _, _ => none
def wholeG (xs : List Int) : Option (List Int) :=
  match grsL xs with
  | some a => if a.length = 8 then some a else none
  | none => none
def sixF (xs : List Int) : Nat → Nat → Option (List Int)
  | 0, _ => wholeG xs
  | f + 1, i => if i + 1 < xs.length then (if (xs.drop i).take 2 = [58, 58] then gapG xs i else sixF xs f (i + 1)) else wholeG xs
/-- the groups of a text of sixteen bytes -/
def sixL (xs : List Int) : Option (List Int) := sixF xs xs.length 0
/-- what a reading answers -/
def PrsRet (w : World) (o : Option (Bool × List Int)) (e : Ending) (w' : World) : Prop :=
  (match o with
  | some (s, b) => e = .returned (.tuple #[.agg (adrV s b), .int .i64 0])
  | none => e = .returned (.tuple #[.agg zAdr, .int .i64 3])) ∧ Below w.heap.size w w'
end Go.Proofs.YtmkekdmkefkfiaaDoor.adC
