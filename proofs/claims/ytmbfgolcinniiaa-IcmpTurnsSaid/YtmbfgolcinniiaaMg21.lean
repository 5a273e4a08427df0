/-
  7 texts of a proof, joined.
-/
import Derived.Test.YtmbfgolcinniiaaMg15
import Derived.Test.YtmbfgolcinniiaaMg16
import Derived.Test.YtmbfgolcinniiaaMg18
import Derived.Test.YtmbfgolcinniiaaMg20
import Derived.Test.YtmbfgolcinniiaaMg6
import Derived.Test.YtmbfgolcinniiaaMg13
import Derived.Test.YtmbfgolcinniiaaMg5
import Derived.BigRegion
import Derived.Deep.CutRange
import Derived.StillTailTactics
import Derived.Test.YtmbfgolcinniiaaMg10
import Derived.Laws.CopyOwn
import Derived.Test.YtmbfgolcinniiaaMg8

/-
  Messages of ICMP: their cells, and their numbers: the document's.
-/
namespace Go.Proofs.Ytmbfgolcinniiaa.icC
open Go.ChangeShapes Go.WideShapes Go.ChangeAt Go.RowKit
open Go.Proofs.Ytmbfgolcinniiaa.memC Go.Proofs.Ytmbfgolcinniiaa.genC Go.Proofs.Ytmbfgolcinniiaa.butC Go.Proofs.Ytmbfgolcinniiaa.freeC Go.Proofs.Ytmbfgolcinniiaa.adC
open Go.Proofs.Ytmbfgolcinniiaa.octC (numL getZ putL)
set_option linter.unusedVariables false
/-- a message, but for its data -/
structure Ms where
  ki : Int
  co : Int
  id : Int
  sq : Int
  mt : Int
def U16 (x : Int) : Prop := 0 ≤ x ∧ x ≤ 65535
def U32 (x : Int) : Prop := 0 ≤ x ∧ x ≤ 4294967295
def I64 (x : Int) : Prop := -9223372036854775808 ≤ x ∧ x ≤ 9223372036854775807
structure Ms.Ok (m : Ms) : Prop where
  ki : I64 m.ki
  co : Byte m.co
  id : U16 m.id
  sq : U16 m.sq
  mt : U32 m.mt
def zMs : Ms := ⟨0, 0, 0, 0, 0⟩
theorem zMs_ok : zMs.Ok := ⟨by unfold I64 zMs; decide, by unfold Byte zMs; decide, by unfold U16 zMs; decide, by unfold U16 zMs; decide, by unfold U32 zMs; decide⟩
def msV (m : Ms) (A : Option Addr) (n c : Nat) : Array Value := #[.int .i64 m.ki, .int .u8 m.co, .int .u16 m.id, .int .u16 m.sq, .int .u32 m.mt, .slice A n c]
/-- what is known of their cells -/
structure MsC (C : Array Value) (m : Ms) (A : Option Addr) (n c : Nat) : Prop where
  size : C.size = 6
  ki : C[0]? = some (.int .i64 m.ki)
  co : C[1]? = some (.int .u8 m.co)
  id : C[2]? = some (.int .u16 m.id)
  sq : C[3]? = some (.int .u16 m.sq)
  mt : C[4]? = some (.int .u32 m.mt)
  da : C[5]? = some (.slice A n c)
theorem msC (m : Ms) (A : Option Addr) (n c : Nat) : MsC (msV m A n c) m A n c := ⟨rfl, rfl, rfl, rfl, rfl, rfl, rfl⟩
theorem ms_one (m : Ms) (A : Option Addr) (n c : Nat) : (msV m A n c).all (·.oneCell') = true := by simp [msV, Value.oneCell']
theorem ms_size (m m' : Ms) (A A' : Option Addr) (n c n' c' : Nat) : (msV m A n c).size = (msV m' A' n' c').size := rfl
section
variable {m : Ms} {A A' : Option Addr} {n c n' c' : Nat}
theorem msV_ki (z : Int) : (msV m A n c).setIfInBounds 0 (.int .i64 z) = msV { m with ki := z } A n c := by simp [msV]
theorem msV_co (z : Int) : (msV m A n c).setIfInBounds 1 (.int .u8 z) = msV { m with co := z } A n c := by simp [msV]
theorem msV_id (z : Int) : (msV m A n c).setIfInBounds 2 (.int .u16 z) = msV { m with id := z } A n c := by simp [msV]
theorem msV_sq (z : Int) : (msV m A n c).setIfInBounds 3 (.int .u16 z) = msV { m with sq := z } A n c := by simp [msV]
theorem msV_mt (z : Int) : (msV m A n c).setIfInBounds 4 (.int .u32 z) = msV { m with mt := z } A n c := by simp [msV]
theorem msV_da : (msV m A n c).setIfInBounds 5 (.slice A' n' c') = msV m A' n' c' := by simp [msV]
end
/-- whether two messages, and their data, are the same -/
def sameM (p : Ms) (xs : List Int) (q : Ms) (ys : List Int) : Bool :=
  decide (p.ki = q.ki) && (decide (p.co = q.co) && (decide (p.id = q.id) && (decide (p.sq = q.sq) && (decide (p.mt = q.mt) && decide (xs = ys)))))
theorem sameM_iff {p q : Ms} {xs ys : List Int} : sameM p xs q ys = true ↔ p = q ∧ xs = ys := by
  obtain ⟨a1, a2, a3, a4, a5⟩ := p
  obtain ⟨b1, b2, b3, b4, b5⟩ := q
  simp [sameM]
  constructor
  · rintro ⟨h1, h2, h3, h4, h5, h6⟩; exact ⟨⟨h1, h2, h3, h4, h5⟩, h6⟩
  · rintro ⟨⟨h1, h2, h3, h4, h5⟩, h6⟩; exact ⟨h1, h2, h3, h4, h5, h6⟩
theorem sameM_self (p : Ms) (xs : List Int) : sameM p xs p xs = true := sameM_iff.2 ⟨rfl, rfl⟩
/-- the fields that count -/
def keptM (m : Ms) : Ms :=
  if m.ki = 1 ∨ m.ki = 2 then ⟨m.ki, 0, m.id, m.sq, 0⟩ else if m.ki = 3 ∨ m.ki = 5 then ⟨m.ki, m.co, 0, 0, 0⟩ else if m.ki = 4 then ⟨m.ki, 0, 0, 0, m.mt⟩ else ⟨m.ki, 0, 0, 0, 0⟩
theorem keptM_ok {m : Ms} (h : m.Ok) : (keptM m).Ok := by
  obtain ⟨h1, h2, h3, h4, h5⟩ := h
  have b0 : Byte 0 := by unfold Byte; omega
  have u0 : U16 0 := by unfold U16; omega
  have v0 : U32 0 := by unfold U32; omega
  unfold keptM
  split
  · exact ⟨h1, b0, h3, h4, v0⟩
  · split
    · exact ⟨h1, h2, u0, u0, v0⟩
    · split
      · exact ⟨h1, b0, u0, u0, h5⟩
      · exact ⟨h1, b0, u0, u0, v0⟩
theorem keptM_ki (m : Ms) : (keptM m).ki = m.ki := by unfold keptM; (repeat' split) <;> rfl
theorem keptM_twice (m : Ms) : keptM (keptM m) = keptM m := by
  have e := keptM_ki m
  by_cases h1 : m.ki = 1 ∨ m.ki = 2
  · have : keptM m = ⟨m.ki, 0, m.id, m.sq, 0⟩ := by unfold keptM; rw [if_pos h1]
    rw [this]; unfold keptM; rw [if_pos h1]
  · by_cases h2 : m.ki = 3 ∨ m.ki = 5
    · have : keptM m = ⟨m.ki, m.co, 0, 0, 0⟩ := by unfold keptM; rw [if_neg h1, if_pos h2]
      rw [this]; unfold keptM; rw [if_neg h1, if_pos h2]
    · by_cases h3 : m.ki = 4
      · have : keptM m = ⟨m.ki, 0, 0, 0, m.mt⟩ := by unfold keptM; rw [if_neg h1, if_neg h2, if_pos h3]
        rw [this]; unfold keptM; rw [if_neg h1, if_neg h2, if_pos h3]
      · have : keptM m = ⟨m.ki, 0, 0, 0, 0⟩ := by unfold keptM; rw [if_neg h1, if_neg h2, if_neg h3]
        rw [this]; unfold keptM; rw [if_neg h1, if_neg h2, if_neg h3]
instance : DecidableEq Ms := fun p q => by
  obtain ⟨a1, a2, a3, a4, a5⟩ := p
  obtain ⟨b1, b2, b3, b4, b5⟩ := q
  exact decidable_of_iff (a1 = b1 ∧ a2 = b2 ∧ a3 = b3 ∧ a4 = b4 ∧ a5 = b5) (by simp)
/-- whether it may be -/
def mayM (m : Ms) (n : Nat) (six : Bool) : Bool := decide (1 ≤ m.ki) && (decide (m.ki ≤ 5) && (decide (keptM m = m) && (decide (n ≤ 1400) && (six || decide (m.mt ≤ 65535)))))
theorem same_kept (m : Ms) (xs : List Int) : sameM (keptM m) xs m xs = decide (keptM m = m) := by
  by_cases h : keptM m = m
  · rw [decide_eq_true h, h]; exact sameM_self _ _
  · rw [decide_eq_false h]
    cases h2 : sameM (keptM m) xs m xs
    · rfl
    · exact absurd (sameM_iff.1 h2).1 h
/-- the type of a kind -/
def tyM (k : Nat) (six : Bool) : Int := if six then ([0, 128, 129, 1, 2, 3] : List Int).getD k 0 else ([0, 8, 0, 3, 3, 11] : List Int).getD k 0
theorem tyM_byte (k : Nat) (six : Bool) : Byte (tyM k six) := by
  unfold tyM Byte
  rcases k with _ | _ | _ | _ | _ | _ | k <;> cases six <;> simp
/-- the code that is laid -/
def coM (m : Ms) (six : Bool) : Int := if m.ki = 4 ∧ six = false then 4 else m.co
def headM (m : Ms) (six : Bool) (ck : Int) : List Int := [tyM m.ki.toNat six, coM m six, ck / 256, ck % 256] ++ (if m.ki = 4 then numL 4 m.mt else numL 2 m.id ++ numL 2 m.sq)
def bytesM (m : Ms) (six : Bool) (xs : List Int) (ck : Int) : List Int := headM m six ck ++ xs
theorem headM_len (m : Ms) (six : Bool) (ck : Int) : (headM m six ck).length = 8 := by
  unfold headM
  split <;> simp [octC.numL_len]
theorem bytesM_len (m : Ms) (six : Bool) (xs : List Int) (ck : Int) : (bytesM m six xs ck).length = 8 + xs.length := by unfold bytesM; rw [List.length_append, headM_len]
/-- the sum of bytes, with the pseudo header where they are of sixteen -/
def sumM (s1 s2 : Bool) (b1 b2 : List Int) (bs : List Int) : Int := if s1 = true then chkM.fo (chkM.wsum (pseC.pseL s1 s2 b1 b2 58 (bs.length : Nat)) + chkM.wsum bs) else chkM.fo (chkM.wsum bs)
theorem sumM_bd (s1 s2 : Bool) (b1 b2 : List Int) (bs : List Int) : 0 ≤ sumM s1 s2 b1 b2 bs ∧ sumM s1 s2 b1 b2 bs ≤ 65535 := by
  unfold sumM
  split <;> exact chkM.fo_bd _
def layM (m : Ms) (n : Nat) (s1 : Bool) : Bool := mayM m n s1 && !(decide (m.ki = 3) && (decide (m.co = 4) && !s1))
def laysE (m : Ms) (n : Nat) (s1 : Bool) : Int := if layM m n s1 = true then 0 else 1
def ckM (s1 s2 : Bool) (b1 b2 : List Int) (m : Ms) (xs : List Int) : Int := 65535 - sumM s1 s2 b1 b2 (bytesM m s1 xs 0)
def laysL (s1 s2 : Bool) (b1 b2 : List Int) (m : Ms) (xs : List Int) : List Int := if layM m xs.length s1 = true then bytesM m s1 xs (ckM s1 s2 b1 b2 m xs) else []
end Go.Proofs.Ytmbfgolcinniiaa.icC

/-
  Types, what counts of a message, whether two are the same: the document's.
-/
namespace Go.Proofs.Ytmbfgolcinniiaa.icC
open Go.ChangeShapes Go.WideShapes Go.ChangeAt Go.RowKit
open Go.Proofs.Ytmbfgolcinniiaa.memC Go.Proofs.Ytmbfgolcinniiaa.genC Go.Proofs.Ytmbfgolcinniiaa.butC Go.Proofs.Ytmbfgolcinniiaa.freeC Go.Proofs.Ytmbfgolcinniiaa.adC
set_option linter.unusedVariables false
theorem lt_of_rowI {w : World} {g : Nat} {o : Obj} (h : w.heap[g]? = some o) : g < w.heap.size := (Array.getElem?_eq_some_iff.1 h).1
section
variable {P : Program} {ops : Array Oper} {rest : List Oper} {a : Act} {w : World} {Q : Exit → Act → World → Prop} {d : Option Tmp} {t : TypeId} {p : String} {f : Array Edge} {g : Option (Nat × Bool)}
theorem at_buildI (ty : TypeId) {fs : Array (Nat × Operand)} (h : wpList P ops Q (⟨d, .build ty fs, t, p, f, g⟩ :: rest) a w) : wpList P ops Q (⟨d, .build ty fs, t, p, f, g⟩ :: rest) a w := h
end
theorem built2_runI {P : Program} {fr : Act} {o : Oper} {w : World} {T : TypeId} {i0 i1 : Nat} {x0 x1 : Operand} {v0 v1 : Value} {C : Array Value} (ho : o.op = .build T #[(i0, x0), (i1, x1)])
    (h0 : fr.eval x0 = v0) (h1 : fr.eval x1 = v1) (hb : P.built T [(i0, v0), (i1, v1)] = some C) : (execOp fr.eval o).run P w = .ok (.value (.agg C)) w := by
  unfold execOp
  have h : (Instr.build T #[(i0, v0), (i1, v1)]).run P w = .ok (.agg C) w := run_build w T _ C hb
  simp [ho, h0, h1, h, Result.andThen_ok]
set_option maxHeartbeats 8000000 in
theorem types_any (k : Nat) (six : Bool) (w : World) (hk : k < 6) : Calls Try.prog 39 #[.int .i64 (k : Int), .bool six] w (Ret w (.int .u8 (tyM k six))) := by
  have h6 : k = 0 ∨ k = 1 ∨ k = 2 ∨ k = 3 ∨ k = 4 ∨ k = 5 := by omega
  rcases h6 with rfl | rfl | rfl | rfl | rfl | rfl <;> cases six
  all_goals
    go_enter Try.func39, Try.ntmps39
    go_wp2_with fail
    go_ret
    exact ⟨rfl, ((Below.refl _ _).alloc (Nat.le_refl _) _).alloc (by simp) _⟩
theorem ms_info0 : (Try.prog.info? 26).map (·.size) = some 6 := by kernel_rfl
theorem MsC.info {C : Array Value} {m : Ms} {A : Option Addr} {n c : Nat} (h : MsC C m A n c) : (Try.prog.info? 26).map (·.size) = some C.size := by rw [ms_info0, h.size]
theorem zMs_info : (Try.prog.info? 26).map (·.zero) = some (some (.agg (msV zMs none 0 0))) := by kernel_rfl
theorem zeroMs (w : World) : (zeroValue 26).run Try.prog w = .ok (.agg (msV zMs none 0 0)) w := by
  obtain ⟨i, hi, hz⟩ := Option.map_eq_some_iff.1 zMs_info
  simp [zeroValue, typeInfo, hi, hz]
theorem zMs_built : Try.prog.built 26 [] = some (msV zMs none 0 0) := by kernel_rfl
theorem ms_built2 (x : Int) (A : Option Addr) (n c : Nat) : Try.prog.built 26 [(0, .int .i64 x), (5, .slice A n c)] = some (msV ⟨x, 0, 0, 0, 0⟩ A n c) := by kernel_rfl
/-- the message, the result, what is made -/
structure Km (w0 w : World) (m o : Ms) (A : Option Addr) (n c : Nat) : Prop where
  par : w.heap[w0.heap.size]? = some (.cells (msV m A n c) 26 (0, 0))
  res : w.heap[w0.heap.size + 1]? = some (.cells (msV zMs none 0 0) 26 (0, 0))
  out : w.heap[w0.heap.size + 2]? = some (.cells (msV o A n c) 26 (0, 0))
  bel : Below w0.heap.size w0 w
section
variable {w0 w w' : World} {m o o' : Ms} {A : Option Addr} {n c : Nat}
theorem Km.belw (h : Km w0 w m o A n c) (hb : Below w.heap.size w w') : Km w0 w' m o A n c :=
  ⟨by rw [hb.block _ (lt_of_rowI h.par)]; exact h.par, by rw [hb.block _ (lt_of_rowI h.res)]; exact h.res, by rw [hb.block _ (lt_of_rowI h.out)]; exact h.out, h.bel.trans (hb.mono h.bel.size)⟩
theorem Km.set_ (h : Km w0 w m o A n c) (j : Nat) (v : Value) (e : (msV o A n c).setIfInBounds j v = msV o' A n c) : Km w0 (w.setCell ⟨w0.heap.size + 2, j, none⟩ v) m o' A n c := by
  have hd : ∀ k, k ≠ w0.heap.size + 2 → (w.setCell ⟨w0.heap.size + 2, j, none⟩ v).heap[k]? = w.heap[k]? := fun k hk => Below.heap_setCell _ _ _ _ hk
  refine ⟨(hd _ (by omega)).trans h.par, (hd _ (by omega)).trans h.res, ?_, h.bel.setCell (p := ⟨w0.heap.size + 2, j, none⟩) (by show w0.heap.size ≤ w0.heap.size + 2; omega) _⟩
  rw [heap_setCell_same w (w0.heap.size + 2) j _ _ _ h.out, e]
end
def kmR (w0 : World) (m : Ms) (A : Option Addr) (n c : Nat) (f : Nat → Ms) : Nat → (Nat → Value) → World → Prop := fun k _ w => Km w0 w m (f k) A n c
theorem kmR.keep {w0 : World} {m : Ms} {A : Option Addr} {n c : Nat} {f : Nat → Ms} {k : Nat} {us us' : Nat → Value} {w w' : World} (hb : Below w.heap.size w w') (h : kmR w0 m A n c f k us w) : kmR w0 m A n c f k us' w' := Km.belw h hb
theorem bel_orI {b : Nat} {w0 w w' : World} (hb : b ≤ w.heap.size) (h : Below b w0 w) (hd : Below w.heap.size w w' ∨ Below b w w') : Below b w0 w' := by
  rcases hd with hd | hd
  · exact h.trans (hd.mono hb)
  · exact h.trans hd
theorem setR_belowI {w w1 : World} {b g : Nat} (h : Below b w w1) (hg : b ≤ g) (cs : Array Value) : Below b w (w1.setRow g cs) :=
  ⟨h.os, h.tape, h.output, by simpa using h.size, fun k hk => by rw [setRow_other _ _ _ _ (by omega)]; exact h.block k hk⟩
def kaV (g1 g3 : Nat) (xi xs : Int) : Nat → Value → World → Prop
  | 0, v, _ => v = .pointer (some ⟨g1, 2, none⟩)
  | 1, v, _ => v = .int .u16 xi
  | 2, v, _ => v = .pointer (some ⟨g1, 3, none⟩)
  | 3, v, _ => v = .int .u16 xs
  | 4, v, _ => v = .pointer (some ⟨g3, 2, none⟩)
  | 6, v, _ => v = .pointer (some ⟨g3, 3, none⟩)
  | _, _, _ => True
theorem kaV.keep (g1 g3 : Nat) (xi xs : Int) (i : Nat) (v : Value) (w w' : World) (hd : Below w.heap.size w w' ∨ (fun _ _ => True) w w') (h : kaV g1 g3 xi xs i v w) : kaV g1 g3 xi xs i v w' := by
  unfold kaV at h ⊢
  split at h <;> exact h
def kaT : List (Option Nat) := [none, none, none, none, none, none, none, none, none, none, none, none, none, none, some 0, some 1, some 2, some 3, some 4, some 6, none, none, none, none, none, none, none, none, none, none, none, none]
set_option maxRecDepth 100000 in
set_option maxHeartbeats 4000000 in
theorem kept_any (m : Ms) (A : Option Addr) (n c : Nat) (w : World) : Calls Try.prog 33 #[.agg (msV m A n c)] w (Ret w (.agg (msV (keptM m) A n c))) := by
  have hzv := zeroMs
  obtain ⟨W0, hW0⟩ : ∃ W, W = w.alloc (.cells (msV m A n c) 26) := ⟨_, rfl⟩
  obtain ⟨W1, hW1⟩ : ∃ W, W = W0.alloc (.cells (msV zMs none 0 0) 26) := ⟨_, rfl⟩
  have z0 : W0.heap.size = w.heap.size + 1 := by rw [hW0, alloc_size]
  have z1 : W1.heap.size = w.heap.size + 2 := by rw [hW1, alloc_size, z0]
  have B0 : Below w.heap.size w W0 := by rw [hW0]; exact alloc_below _ _
  have B1 : Below W0.heap.size W0 W1 := by rw [hW1]; exact alloc_below _ _
  have RP : W1.heap[w.heap.size]? = some (.cells (msV m A n c) 26 (0, 0)) := by rw [B1.block _ (by omega), hW0]; exact heap_alloc_new _ _
  have k0 := pkC.PkC.cell RP (msC m A n c).ki
  have k5 := pkC.PkC.cell RP (msC m A n c).da
  have KW := Lib.hid (show ∀ W, W = W1.alloc (.cells (msV ⟨m.ki, 0, 0, 0, 0⟩ A n c) 26) → Km w W m ⟨m.ki, 0, 0, 0, 0⟩ A n c from fun W h => by
    have B2 : Below W1.heap.size W1 W := by rw [h]; exact alloc_below _ _
    refine ⟨(B2.block _ (by omega)).trans RP, ?_, ?_, (B0.trans (B1.mono (by omega))).trans (B2.mono (by omega))⟩
    · rw [B2.block _ (by omega), hW1, ← z0]; exact heap_alloc_new _ _
    · rw [h, ← z1]; exact heap_alloc_new _ _)
  have HR1 := Lib.hid (show (W1.alloc (.cells (msV zMs none 0 0) 26)).heap[w.heap.size + 2]? = some (.cells (msV zMs none 0 0) 26 (0, 0)) by rw [← z1]; exact heap_alloc_new _ _)
  have SR := Lib.hid (show (W1.alloc (.cells (msV zMs none 0 0) 26)).setRow (w.heap.size + 2) (msV ⟨m.ki, 0, 0, 0, 0⟩ A n c) = W1.alloc (.cells (msV ⟨m.ki, 0, 0, 0, 0⟩ A n c) 26) by rw [← z1, World.setRow_alloc_new])
  have BT := Lib.hid (ms_built2 m.ki A n c)
  have I5 := Lib.hid (msC ⟨m.ki, 0, 0, 0, 0⟩ A n c).info
  have S5 := Lib.hid (ms_size zMs ⟨m.ki, 0, 0, 0, 0⟩ none A 0 0 n c)
  have O5 := Lib.hid (ms_one ⟨m.ki, 0, 0, 0, 0⟩ A n c)
  obtain ⟨CP, hCP⟩ : ∃ C, C = msV m A n c := ⟨_, rfl⟩
  rw [← hCP] at hW0 RP ⊢
  generalize hC5 : msV ⟨m.ki, 0, 0, 0, 0⟩ A n c = C5 at *
  generalize hCZ : msV zMs none 0 0 = CZ at *
  have HCP := Lib.hid hCP
  have HC5 := Lib.hid hC5
  have HCZ := Lib.hid hCZ
  clear B0 B1 hCP hC5 hCZ
  go_enter Try.func33, Try.ntmps33
  go_upto_region 1 with fail
  rw [← hW0, ← hW1]
  try rw [z0]
  clear hW0 hW1 z0
  go_upto_region 2 with (first
    | (with_reducible refine at_buildI 26 ?_; refine wpList_runG (by kernel_rfl) _ (built2_runI (T := 26) rfl (by kernel_rfl) (by kernel_rfl) BT.out) ?_)
    | (refine wpList_store_row rfl 26 (.tmp 3) (.tmp 8) rfl (w.heap.size + 2) _ rfl rfl _ _ HR1.out I5.out S5.out O5.out ?_; rw [SR.out]))
  have hT := KW.out _ rfl
  generalize W1.alloc (.cells C5 26) = W at *
  have T0 := Lib.hid hT
  have p0 := pkC.PkC.cell hT.par (msC m A n c).ki
  have HWS := Lib.hid (show w.heap.size ≤ W.heap.size from hT.bel.size)
  clear hT KW HR1 SR BT I5 S5 O5 k0 k5 RP hzv HCP z1
  try clear HC5
  try rw [HCZ.out]
  by_cases h1 : m.ki = 1
  · have e1 : (m.ki == 1) = true := beq_iff_eq.2 h1
    have eK : keptM m = ⟨m.ki, 0, m.id, m.sq, 0⟩ := by unfold keptM; rw [if_pos (by omega)]
    rw [eK]
    go_upto_region 5 with fail
    clear p0 e1
    have KI := Lib.hid (fun (w' : World) (h : Below w.heap.size w w' ∧ w'.heap[w.heap.size]? = some (.cells (msV m A n c) 26 (0, 0))) => pkC.PkC.cell h.2 (msC m A n c).id)
    have KQ := Lib.hid (fun (w' : World) (h : Below w.heap.size w w' ∧ w'.heap[w.heap.size]? = some (.cells (msV m A n c) 26 (0, 0))) => pkC.PkC.cell h.2 (msC m A n c).sq)
    refine with_act fun a0 ha0 => ?_
    have hl : kaT.length = a0.tmps.size := by rw [ha0]; rfl
    have k1 : a0.tmps[1]?.getD undef = .pointer (some ⟨(w.heap.size), 0, none⟩) := by rw [ha0]; rfl
    have k3 : a0.tmps[3]?.getD undef = .pointer (some ⟨(w.heap.size + 2), 0, none⟩) := by rw [ha0]; rfl
    refine wp_region_che (by kernel_rfl) kaT (by kernel_rfl) (by kernel_rfl) hl (fun i => undef) (by rw [ha0]; rfl) ((w.heap.size)) (fun w1 w2 => Below w.heap.size w1 w2 ∧ w2.heap[w.heap.size]? = w1.heap[w.heap.size]?) [5, 7] (by kernel_rfl) (by decide) (by decide) (fun w' => Below w.heap.size w w' ∧ w'.heap[w.heap.size]? = some (.cells (msV m A n c) 26 (0, 0))) (kaV (w.heap.size) (w.heap.size + 2) m.id m.sq) (kmR w m A n c (fun k => ([⟨m.ki, 0, 0, 0, 0⟩, ⟨m.ki, 0, m.id, 0, 0⟩, ⟨m.ki, 0, m.id, m.sq, 0⟩] : List Ms).getD k m)) HWS.out ⟨T0.out.bel.trans ((Below.refl _ _).drew.mono HWS.out), (T0.out.belw (Below.refl _ _).drew).par⟩ (show Km w W.drew m ⟨m.ki, 0, 0, 0, 0⟩ A n c from T0.out.belw (Below.refl _ _).drew) (fun w1 w2 hb hd h => ⟨bel_orI hb h.1 (hd.imp id And.left), by rcases hd with hd | hd; exact (hd.block _ (lt_of_rowI h.2)).trans h.2; exact hd.2.trans h.2⟩) (fun i v w w' _ _ h => kaV.keep _ _ _ _ i v w w' (.inr trivial) h) (fun k us us' w1 w2 _ _ hb hR => kmR.keep hb hR) ⟨?_, ?_, ?_, ?_, ?_, ?_, ?_, ?_, trivial⟩ ?_
    · refine stepE_val [] (by kernel_rfl) (by decide) (by decide) rfl fun us w' hB hG hV => ?_
      have o1 := (frame_old2 (us := us) (a := a0) (show (kaT[1]?).join = none from rfl)).trans k1
      generalize frame kaT a0 us = fr at *
      exact val_C (v := .pointer (some ⟨(w.heap.size), 2, none⟩)) (w' := w') (by go_simp) (Below.refl _ _) rfl
    · refine stepE_val [0] (by kernel_rfl) (by decide) (by decide) rfl fun us w' hB hG hV => ?_
      have e0 : us 0 = .pointer (some ⟨(w.heap.size), 2, none⟩) := hV 0 (by simp)
      have v0 := (frame_at2 (us := us) hl (show (kaT[14]?).join = some 0 from rfl)).trans e0
      have hc := KI.out w' hG
      generalize frame kaT a0 us = fr at *
      exact val_C (v := .int .u16 m.id) (w' := w') (by go_simp) (Below.refl _ _) rfl
    · refine stepE_val [] (by kernel_rfl) (by decide) (by decide) rfl fun us w' hB hG hV => ?_
      have o1 := (frame_old2 (us := us) (a := a0) (show (kaT[1]?).join = none from rfl)).trans k1
      generalize frame kaT a0 us = fr at *
      exact val_C (v := .pointer (some ⟨(w.heap.size), 3, none⟩)) (w' := w') (by go_simp) (Below.refl _ _) rfl
    · refine stepE_val [2] (by kernel_rfl) (by decide) (by decide) rfl fun us w' hB hG hV => ?_
      have e2 : us 2 = .pointer (some ⟨(w.heap.size), 3, none⟩) := hV 2 (by simp)
      have v2 := (frame_at2 (us := us) hl (show (kaT[16]?).join = some 2 from rfl)).trans e2
      have hc := KQ.out w' hG
      generalize frame kaT a0 us = fr at *
      exact val_C (v := .int .u16 m.sq) (w' := w') (by go_simp) (Below.refl _ _) rfl
    · refine stepE_val [] (by kernel_rfl) (by decide) (by decide) rfl fun us w' hB hG hV => ?_
      have o3 := (frame_old2 (us := us) (a := a0) (show (kaT[3]?).join = none from rfl)).trans k3
      generalize frame kaT a0 us = fr at *
      exact val_C (v := .pointer (some ⟨(w.heap.size + 2), 2, none⟩)) (w' := w') (by go_simp) (Below.refl _ _) rfl
    · refine stepE_chain 0 rfl (by decide) [4, 1] (by kernel_rfl) (by decide) rfl fun us w' hB hG hV hR => ?_
      have e4 : us 4 = .pointer (some ⟨(w.heap.size + 2), 2, none⟩) := hV 4 (by simp)
      have v4 := (frame_at2 (us := us) hl (show (kaT[18]?).join = some 4 from rfl)).trans e4
      have e1 : us 1 = .int .u16 m.id := hV 1 (by simp)
      have v1 := (frame_at2 (us := us) hl (show (kaT[15]?).join = some 1 from rfl)).trans e1
      have T5 := (show Km w w' m ⟨m.ki, 0, 0, 0, 0⟩ A n c from hR)
      have hc := pkC.PkC.cell T5.out (msC (⟨m.ki, 0, 0, 0, 0⟩ : Ms) A n c).id
      have hf := frozen_of_row w' (w.heap.size + 2) 2 _ _ T5.out
      generalize frame kaT a0 us = fr at *
      exact free_skip (w' := w'.setCell ⟨w.heap.size + 2, 2, none⟩ (.int .u16 m.id)) (by go_simp) ⟨undef, rfl, ⟨⟨(Below.refl w.heap.size w').setCell (p := ⟨w.heap.size + 2, 2, none⟩) (by show w.heap.size ≤ w.heap.size + 2; omega) _, Below.heap_setCell _ _ _ _ (by show w.heap.size ≠ w.heap.size + 2; omega)⟩, (Below.refl w.heap.size w').setCell (p := ⟨w.heap.size + 2, 2, none⟩) (by show w.heap.size ≤ w.heap.size + 2; omega) _⟩, (show Km w _ m ⟨m.ki, 0, m.id, 0, 0⟩ A n c from T5.set_ 2 _ (msV_id m.id))⟩
    · refine stepE_val [] (by kernel_rfl) (by decide) (by decide) rfl fun us w' hB hG hV => ?_
      have o3 := (frame_old2 (us := us) (a := a0) (show (kaT[3]?).join = none from rfl)).trans k3
      generalize frame kaT a0 us = fr at *
      exact val_C (v := .pointer (some ⟨(w.heap.size + 2), 3, none⟩)) (w' := w') (by go_simp) (Below.refl _ _) rfl
    · refine stepE_chain 1 rfl (by decide) [6, 3] (by kernel_rfl) (by decide) rfl fun us w' hB hG hV hR => ?_
      have e6 : us 6 = .pointer (some ⟨(w.heap.size + 2), 3, none⟩) := hV 6 (by simp)
      have v6 := (frame_at2 (us := us) hl (show (kaT[19]?).join = some 6 from rfl)).trans e6
      have e3 : us 3 = .int .u16 m.sq := hV 3 (by simp)
      have v3 := (frame_at2 (us := us) hl (show (kaT[17]?).join = some 3 from rfl)).trans e3
      have T5 := (show Km w w' m ⟨m.ki, 0, m.id, 0, 0⟩ A n c from hR)
      have hc := pkC.PkC.cell T5.out (msC (⟨m.ki, 0, m.id, 0, 0⟩ : Ms) A n c).sq
      have hf := frozen_of_row w' (w.heap.size + 2) 3 _ _ T5.out
      generalize frame kaT a0 us = fr at *
      exact free_skip (w' := w'.setCell ⟨w.heap.size + 2, 3, none⟩ (.int .u16 m.sq)) (by go_simp) ⟨undef, rfl, ⟨⟨(Below.refl w.heap.size w').setCell (p := ⟨w.heap.size + 2, 3, none⟩) (by show w.heap.size ≤ w.heap.size + 2; omega) _, Below.heap_setCell _ _ _ _ (by show w.heap.size ≠ w.heap.size + 2; omega)⟩, (Below.refl w.heap.size w').setCell (p := ⟨w.heap.size + 2, 3, none⟩) (by show w.heap.size ≤ w.heap.size + 2; omega) _⟩, (show Km w _ m ⟨m.ki, 0, m.id, m.sq, 0⟩ A n c from T5.set_ 3 _ (msV_sq m.sq))⟩
    · intro us w6 hB2 hG hV hR
      have T1 := Lib.hid (show Km w w6 m ⟨m.ki, 0, m.id, m.sq, 0⟩ A n c from hR)
      subst ha0
      simp only [frame, kaT, fill]
      clear hV hG hl HWS hR k1 k3
      go_upto_region 11 with fail
      have RW := Lib.hid T1.out.out
      have ZW := Lib.hid T1.out.res
      have BW := Lib.hid T1.out.bel
      have IQ := Lib.hid (msC ⟨m.ki, 0, m.id, m.sq, 0⟩ A n c).info
      have SQ := Lib.hid (ms_size zMs ⟨m.ki, 0, m.id, m.sq, 0⟩ none A 0 0 n c)
      have OQ := Lib.hid (ms_one ⟨m.ki, 0, m.id, m.sq, 0⟩ A n c)
      clear T1
      generalize hC1 : msV ⟨m.ki, 0, m.id, m.sq, 0⟩ A n c = C1 at *
      have HC1 := Lib.hid hC1
      clear hC1
      go_wp2_with (first
        | (refine wpList_load_rowG (by kernel_rfl) 26 (.tmp 3) rfl (w.heap.size + 2) (by kernel_rfl) _ _ _ _ RW.out Try.underlying26 rfl IQ.out ?_)
        | (refine wpList_store_row rfl 26 (.tmp 2) (.tmp 31) rfl (w.heap.size + 1) C1 rfl rfl _ _ ZW.out IQ.out SQ.out OQ.out ?_))
      refine bodyPost_ret (v := .agg C1) (Go.results_cell_row Try.results33 _ _ (w.heap.size + 1) _ _ _ _ (by rfl) (setRow_heap _ _ _ _ _ _ ZW.out) Try.underlying26 rfl IQ.out) rfl ?_
      refine ⟨?_, setR_belowI BW.out (by omega) _⟩
      first | rfl | (rw [← HC1.out]; first | rfl | (rw [eK]; done) | simp only [h3] | simp only [h5] | simp only [h4])
  by_cases h2 : m.ki = 2
  · have e1 : (m.ki == 1) = false := beq_eq_false_iff_ne.2 h1
    have e2 : (m.ki == 2) = true := beq_iff_eq.2 h2
    have eK : keptM m = ⟨m.ki, 0, m.id, m.sq, 0⟩ := by unfold keptM; rw [if_pos (by omega)]
    rw [eK]
    go_upto_region 5 with fail
    clear p0 e1 e2
    have KI := Lib.hid (fun (w' : World) (h : Below w.heap.size w w' ∧ w'.heap[w.heap.size]? = some (.cells (msV m A n c) 26 (0, 0))) => pkC.PkC.cell h.2 (msC m A n c).id)
    have KQ := Lib.hid (fun (w' : World) (h : Below w.heap.size w w' ∧ w'.heap[w.heap.size]? = some (.cells (msV m A n c) 26 (0, 0))) => pkC.PkC.cell h.2 (msC m A n c).sq)
    refine with_act fun a0 ha0 => ?_
    have hl : kaT.length = a0.tmps.size := by rw [ha0]; rfl
    have k1 : a0.tmps[1]?.getD undef = .pointer (some ⟨(w.heap.size), 0, none⟩) := by rw [ha0]; rfl
    have k3 : a0.tmps[3]?.getD undef = .pointer (some ⟨(w.heap.size + 2), 0, none⟩) := by rw [ha0]; rfl
    refine wp_region_che (by kernel_rfl) kaT (by kernel_rfl) (by kernel_rfl) hl (fun i => undef) (by rw [ha0]; rfl) ((w.heap.size)) (fun w1 w2 => Below w.heap.size w1 w2 ∧ w2.heap[w.heap.size]? = w1.heap[w.heap.size]?) [5, 7] (by kernel_rfl) (by decide) (by decide) (fun w' => Below w.heap.size w w' ∧ w'.heap[w.heap.size]? = some (.cells (msV m A n c) 26 (0, 0))) (kaV (w.heap.size) (w.heap.size + 2) m.id m.sq) (kmR w m A n c (fun k => ([⟨m.ki, 0, 0, 0, 0⟩, ⟨m.ki, 0, m.id, 0, 0⟩, ⟨m.ki, 0, m.id, m.sq, 0⟩] : List Ms).getD k m)) HWS.out ⟨T0.out.bel.trans ((Below.refl _ _).drew.mono HWS.out), (T0.out.belw (Below.refl _ _).drew).par⟩ (show Km w W.drew m ⟨m.ki, 0, 0, 0, 0⟩ A n c from T0.out.belw (Below.refl _ _).drew) (fun w1 w2 hb hd h => ⟨bel_orI hb h.1 (hd.imp id And.left), by rcases hd with hd | hd; exact (hd.block _ (lt_of_rowI h.2)).trans h.2; exact hd.2.trans h.2⟩) (fun i v w w' _ _ h => kaV.keep _ _ _ _ i v w w' (.inr trivial) h) (fun k us us' w1 w2 _ _ hb hR => kmR.keep hb hR) ⟨?_, ?_, ?_, ?_, ?_, ?_, ?_, ?_, trivial⟩ ?_
    · refine stepE_val [] (by kernel_rfl) (by decide) (by decide) rfl fun us w' hB hG hV => ?_
      have o1 := (frame_old2 (us := us) (a := a0) (show (kaT[1]?).join = none from rfl)).trans k1
      generalize frame kaT a0 us = fr at *
      exact val_C (v := .pointer (some ⟨(w.heap.size), 2, none⟩)) (w' := w') (by go_simp) (Below.refl _ _) rfl
    · refine stepE_val [0] (by kernel_rfl) (by decide) (by decide) rfl fun us w' hB hG hV => ?_
      have e0 : us 0 = .pointer (some ⟨(w.heap.size), 2, none⟩) := hV 0 (by simp)
      have v0 := (frame_at2 (us := us) hl (show (kaT[14]?).join = some 0 from rfl)).trans e0
      have hc := KI.out w' hG
      generalize frame kaT a0 us = fr at *
      exact val_C (v := .int .u16 m.id) (w' := w') (by go_simp) (Below.refl _ _) rfl
    · refine stepE_val [] (by kernel_rfl) (by decide) (by decide) rfl fun us w' hB hG hV => ?_
      have o1 := (frame_old2 (us := us) (a := a0) (show (kaT[1]?).join = none from rfl)).trans k1
      generalize frame kaT a0 us = fr at *
      exact val_C (v := .pointer (some ⟨(w.heap.size), 3, none⟩)) (w' := w') (by go_simp) (Below.refl _ _) rfl
    · refine stepE_val [2] (by kernel_rfl) (by decide) (by decide) rfl fun us w' hB hG hV => ?_
      have e2 : us 2 = .pointer (some ⟨(w.heap.size), 3, none⟩) := hV 2 (by simp)
      have v2 := (frame_at2 (us := us) hl (show (kaT[16]?).join = some 2 from rfl)).trans e2
      have hc := KQ.out w' hG
      generalize frame kaT a0 us = fr at *
      exact val_C (v := .int .u16 m.sq) (w' := w') (by go_simp) (Below.refl _ _) rfl
    · refine stepE_val [] (by kernel_rfl) (by decide) (by decide) rfl fun us w' hB hG hV => ?_
      have o3 := (frame_old2 (us := us) (a := a0) (show (kaT[3]?).join = none from rfl)).trans k3
      generalize frame kaT a0 us = fr at *
      exact val_C (v := .pointer (some ⟨(w.heap.size + 2), 2, none⟩)) (w' := w') (by go_simp) (Below.refl _ _) rfl
    · refine stepE_chain 0 rfl (by decide) [4, 1] (by kernel_rfl) (by decide) rfl fun us w' hB hG hV hR => ?_
      have e4 : us 4 = .pointer (some ⟨(w.heap.size + 2), 2, none⟩) := hV 4 (by simp)
      have v4 := (frame_at2 (us := us) hl (show (kaT[18]?).join = some 4 from rfl)).trans e4
      have e1 : us 1 = .int .u16 m.id := hV 1 (by simp)
      have v1 := (frame_at2 (us := us) hl (show (kaT[15]?).join = some 1 from rfl)).trans e1
      have T5 := (show Km w w' m ⟨m.ki, 0, 0, 0, 0⟩ A n c from hR)
      have hc := pkC.PkC.cell T5.out (msC (⟨m.ki, 0, 0, 0, 0⟩ : Ms) A n c).id
      have hf := frozen_of_row w' (w.heap.size + 2) 2 _ _ T5.out
      generalize frame kaT a0 us = fr at *
      exact free_skip (w' := w'.setCell ⟨w.heap.size + 2, 2, none⟩ (.int .u16 m.id)) (by go_simp) ⟨undef, rfl, ⟨⟨(Below.refl w.heap.size w').setCell (p := ⟨w.heap.size + 2, 2, none⟩) (by show w.heap.size ≤ w.heap.size + 2; omega) _, Below.heap_setCell _ _ _ _ (by show w.heap.size ≠ w.heap.size + 2; omega)⟩, (Below.refl w.heap.size w').setCell (p := ⟨w.heap.size + 2, 2, none⟩) (by show w.heap.size ≤ w.heap.size + 2; omega) _⟩, (show Km w _ m ⟨m.ki, 0, m.id, 0, 0⟩ A n c from T5.set_ 2 _ (msV_id m.id))⟩
    · refine stepE_val [] (by kernel_rfl) (by decide) (by decide) rfl fun us w' hB hG hV => ?_
      have o3 := (frame_old2 (us := us) (a := a0) (show (kaT[3]?).join = none from rfl)).trans k3
      generalize frame kaT a0 us = fr at *
      exact val_C (v := .pointer (some ⟨(w.heap.size + 2), 3, none⟩)) (w' := w') (by go_simp) (Below.refl _ _) rfl
    · refine stepE_chain 1 rfl (by decide) [6, 3] (by kernel_rfl) (by decide) rfl fun us w' hB hG hV hR => ?_
      have e6 : us 6 = .pointer (some ⟨(w.heap.size + 2), 3, none⟩) := hV 6 (by simp)
      have v6 := (frame_at2 (us := us) hl (show (kaT[19]?).join = some 6 from rfl)).trans e6
      have e3 : us 3 = .int .u16 m.sq := hV 3 (by simp)
      have v3 := (frame_at2 (us := us) hl (show (kaT[17]?).join = some 3 from rfl)).trans e3
      have T5 := (show Km w w' m ⟨m.ki, 0, m.id, 0, 0⟩ A n c from hR)
      have hc := pkC.PkC.cell T5.out (msC (⟨m.ki, 0, m.id, 0, 0⟩ : Ms) A n c).sq
      have hf := frozen_of_row w' (w.heap.size + 2) 3 _ _ T5.out
      generalize frame kaT a0 us = fr at *
      exact free_skip (w' := w'.setCell ⟨w.heap.size + 2, 3, none⟩ (.int .u16 m.sq)) (by go_simp) ⟨undef, rfl, ⟨⟨(Below.refl w.heap.size w').setCell (p := ⟨w.heap.size + 2, 3, none⟩) (by show w.heap.size ≤ w.heap.size + 2; omega) _, Below.heap_setCell _ _ _ _ (by show w.heap.size ≠ w.heap.size + 2; omega)⟩, (Below.refl w.heap.size w').setCell (p := ⟨w.heap.size + 2, 3, none⟩) (by show w.heap.size ≤ w.heap.size + 2; omega) _⟩, (show Km w _ m ⟨m.ki, 0, m.id, m.sq, 0⟩ A n c from T5.set_ 3 _ (msV_sq m.sq))⟩
    · intro us w6 hB2 hG hV hR
      have T1 := Lib.hid (show Km w w6 m ⟨m.ki, 0, m.id, m.sq, 0⟩ A n c from hR)
      subst ha0
      simp only [frame, kaT, fill]
      clear hV hG hl HWS hR k1 k3
      go_upto_region 11 with fail
      have RW := Lib.hid T1.out.out
      have ZW := Lib.hid T1.out.res
      have BW := Lib.hid T1.out.bel
      have IQ := Lib.hid (msC ⟨m.ki, 0, m.id, m.sq, 0⟩ A n c).info
      have SQ := Lib.hid (ms_size zMs ⟨m.ki, 0, m.id, m.sq, 0⟩ none A 0 0 n c)
      have OQ := Lib.hid (ms_one ⟨m.ki, 0, m.id, m.sq, 0⟩ A n c)
      clear T1
      generalize hC1 : msV ⟨m.ki, 0, m.id, m.sq, 0⟩ A n c = C1 at *
      have HC1 := Lib.hid hC1
      clear hC1
      go_wp2_with (first
        | (refine wpList_load_rowG (by kernel_rfl) 26 (.tmp 3) rfl (w.heap.size + 2) (by kernel_rfl) _ _ _ _ RW.out Try.underlying26 rfl IQ.out ?_)
        | (refine wpList_store_row rfl 26 (.tmp 2) (.tmp 31) rfl (w.heap.size + 1) C1 rfl rfl _ _ ZW.out IQ.out SQ.out OQ.out ?_))
      refine bodyPost_ret (v := .agg C1) (Go.results_cell_row Try.results33 _ _ (w.heap.size + 1) _ _ _ _ (by rfl) (setRow_heap _ _ _ _ _ _ ZW.out) Try.underlying26 rfl IQ.out) rfl ?_
      refine ⟨?_, setR_belowI BW.out (by omega) _⟩
      first | rfl | (rw [← HC1.out]; first | rfl | (rw [eK]; done) | simp only [h3] | simp only [h5] | simp only [h4])
  by_cases h3 : m.ki = 3
  · have e1 : (m.ki == 1) = false := beq_eq_false_iff_ne.2 h1
    have e2 : (m.ki == 2) = false := beq_eq_false_iff_ne.2 h2
    have e3 : (m.ki == 3) = true := beq_iff_eq.2 h3
    have eK : keptM m = ⟨m.ki, m.co, 0, 0, 0⟩ := by unfold keptM; rw [if_neg (by omega), if_pos (by omega)]
    rw [eK]
    have p1 := pkC.PkC.cell T0.out.par (msC m A n c).co
    have o1 := pkC.PkC.cell T0.out.out (msC ⟨m.ki, 0, 0, 0, 0⟩ A n c).co
    have f1 := frozen_of_row W (w.heap.size + 2) 1 _ _ T0.out.out
    have T1 := Lib.hid (show Km w _ m ⟨m.ki, m.co, 0, 0, 0⟩ A n c from T0.out.set_ 1 _ (msV_co m.co))
    clear T0 HWS
    go_upto_region 11 with fail
    have RW := Lib.hid T1.out.out
    have ZW := Lib.hid T1.out.res
    have BW := Lib.hid T1.out.bel
    have IQ := Lib.hid (msC ⟨m.ki, m.co, 0, 0, 0⟩ A n c).info
    have SQ := Lib.hid (ms_size zMs ⟨m.ki, m.co, 0, 0, 0⟩ none A 0 0 n c)
    have OQ := Lib.hid (ms_one ⟨m.ki, m.co, 0, 0, 0⟩ A n c)
    clear T1
    generalize hC1 : msV ⟨m.ki, m.co, 0, 0, 0⟩ A n c = C1 at *
    have HC1 := Lib.hid hC1
    clear hC1
    generalize W.setCell ⟨w.heap.size + 2, 1, none⟩ (.int .u8 m.co) = W1 at *
    go_wp2_with (first
      | (refine wpList_load_rowG (by kernel_rfl) 26 (.tmp 3) rfl (w.heap.size + 2) (by kernel_rfl) _ _ _ _ RW.out Try.underlying26 rfl IQ.out ?_)
      | (refine wpList_store_row rfl 26 (.tmp 2) (.tmp 31) rfl (w.heap.size + 1) C1 rfl rfl _ _ ZW.out IQ.out SQ.out OQ.out ?_))
    refine bodyPost_ret (v := .agg C1) (Go.results_cell_row Try.results33 _ _ (w.heap.size + 1) _ _ _ _ (by rfl) (setRow_heap _ _ _ _ _ _ ZW.out) Try.underlying26 rfl IQ.out) rfl ?_
    refine ⟨?_, setR_belowI BW.out (by omega) _⟩
    first | rfl | (rw [← HC1.out]; first | rfl | (rw [eK]; done) | simp only [h3] | simp only [h5] | simp only [h4])
  by_cases h5 : m.ki = 5
  · have e1 : (m.ki == 1) = false := beq_eq_false_iff_ne.2 h1
    have e2 : (m.ki == 2) = false := beq_eq_false_iff_ne.2 h2
    have e3 : (m.ki == 3) = false := beq_eq_false_iff_ne.2 h3
    have e5 : (m.ki == 5) = true := beq_iff_eq.2 h5
    have eK : keptM m = ⟨m.ki, m.co, 0, 0, 0⟩ := by unfold keptM; rw [if_neg (by omega), if_pos (by omega)]
    rw [eK]
    have p1 := pkC.PkC.cell T0.out.par (msC m A n c).co
    have o1 := pkC.PkC.cell T0.out.out (msC ⟨m.ki, 0, 0, 0, 0⟩ A n c).co
    have f1 := frozen_of_row W (w.heap.size + 2) 1 _ _ T0.out.out
    have T1 := Lib.hid (show Km w _ m ⟨m.ki, m.co, 0, 0, 0⟩ A n c from T0.out.set_ 1 _ (msV_co m.co))
    clear T0 HWS
    go_upto_region 11 with fail
    have RW := Lib.hid T1.out.out
    have ZW := Lib.hid T1.out.res
    have BW := Lib.hid T1.out.bel
    have IQ := Lib.hid (msC ⟨m.ki, m.co, 0, 0, 0⟩ A n c).info
    have SQ := Lib.hid (ms_size zMs ⟨m.ki, m.co, 0, 0, 0⟩ none A 0 0 n c)
    have OQ := Lib.hid (ms_one ⟨m.ki, m.co, 0, 0, 0⟩ A n c)
    clear T1
    generalize hC1 : msV ⟨m.ki, m.co, 0, 0, 0⟩ A n c = C1 at *
    have HC1 := Lib.hid hC1
    clear hC1
    generalize W.setCell ⟨w.heap.size + 2, 1, none⟩ (.int .u8 m.co) = W1 at *
    go_wp2_with (first
      | (refine wpList_load_rowG (by kernel_rfl) 26 (.tmp 3) rfl (w.heap.size + 2) (by kernel_rfl) _ _ _ _ RW.out Try.underlying26 rfl IQ.out ?_)
      | (refine wpList_store_row rfl 26 (.tmp 2) (.tmp 31) rfl (w.heap.size + 1) C1 rfl rfl _ _ ZW.out IQ.out SQ.out OQ.out ?_))
    refine bodyPost_ret (v := .agg C1) (Go.results_cell_row Try.results33 _ _ (w.heap.size + 1) _ _ _ _ (by rfl) (setRow_heap _ _ _ _ _ _ ZW.out) Try.underlying26 rfl IQ.out) rfl ?_
    refine ⟨?_, setR_belowI BW.out (by omega) _⟩
    first | rfl | (rw [← HC1.out]; first | rfl | (rw [eK]; done) | simp only [h3] | simp only [h5] | simp only [h4])
  by_cases h4 : m.ki = 4
  · have e1 : (m.ki == 1) = false := beq_eq_false_iff_ne.2 h1
    have e2 : (m.ki == 2) = false := beq_eq_false_iff_ne.2 h2
    have e3 : (m.ki == 3) = false := beq_eq_false_iff_ne.2 h3
    have e5 : (m.ki == 5) = false := beq_eq_false_iff_ne.2 h5
    have e4 : (m.ki == 4) = true := beq_iff_eq.2 h4
    have eK : keptM m = ⟨m.ki, 0, 0, 0, m.mt⟩ := by unfold keptM; rw [if_neg (by omega), if_neg (by omega), if_pos (by omega)]
    rw [eK]
    have p1 := pkC.PkC.cell T0.out.par (msC m A n c).mt
    have o1 := pkC.PkC.cell T0.out.out (msC ⟨m.ki, 0, 0, 0, 0⟩ A n c).mt
    have f1 := frozen_of_row W (w.heap.size + 2) 4 _ _ T0.out.out
    have T1 := Lib.hid (show Km w _ m ⟨m.ki, 0, 0, 0, m.mt⟩ A n c from T0.out.set_ 4 _ (msV_mt m.mt))
    clear T0 HWS
    go_upto_region 11 with fail
    have RW := Lib.hid T1.out.out
    have ZW := Lib.hid T1.out.res
    have BW := Lib.hid T1.out.bel
    have IQ := Lib.hid (msC ⟨m.ki, 0, 0, 0, m.mt⟩ A n c).info
    have SQ := Lib.hid (ms_size zMs ⟨m.ki, 0, 0, 0, m.mt⟩ none A 0 0 n c)
    have OQ := Lib.hid (ms_one ⟨m.ki, 0, 0, 0, m.mt⟩ A n c)
    clear T1
    generalize hC1 : msV ⟨m.ki, 0, 0, 0, m.mt⟩ A n c = C1 at *
    have HC1 := Lib.hid hC1
    clear hC1
    generalize W.setCell ⟨w.heap.size + 2, 4, none⟩ (.int .u32 m.mt) = W1 at *
    go_wp2_with (first
      | (refine wpList_load_rowG (by kernel_rfl) 26 (.tmp 3) rfl (w.heap.size + 2) (by kernel_rfl) _ _ _ _ RW.out Try.underlying26 rfl IQ.out ?_)
      | (refine wpList_store_row rfl 26 (.tmp 2) (.tmp 31) rfl (w.heap.size + 1) C1 rfl rfl _ _ ZW.out IQ.out SQ.out OQ.out ?_))
    refine bodyPost_ret (v := .agg C1) (Go.results_cell_row Try.results33 _ _ (w.heap.size + 1) _ _ _ _ (by rfl) (setRow_heap _ _ _ _ _ _ ZW.out) Try.underlying26 rfl IQ.out) rfl ?_
    refine ⟨?_, setR_belowI BW.out (by omega) _⟩
    first | rfl | (rw [← HC1.out]; first | rfl | (rw [eK]; done) | simp only [h3] | simp only [h5] | simp only [h4])
  have e1 : (m.ki == 1) = false := beq_eq_false_iff_ne.2 h1
  have e2 : (m.ki == 2) = false := beq_eq_false_iff_ne.2 h2
  have e3 : (m.ki == 3) = false := beq_eq_false_iff_ne.2 h3
  have e5 : (m.ki == 5) = false := beq_eq_false_iff_ne.2 h5
  have e4 : (m.ki == 4) = false := beq_eq_false_iff_ne.2 h4
  have eK : keptM m = ⟨m.ki, 0, 0, 0, 0⟩ := by unfold keptM; rw [if_neg (by omega), if_neg (by omega), if_neg (by omega)]
  rw [eK]
  have T1 := T0
  clear T0 HWS
  go_upto_region 11 with fail
  have RW := Lib.hid T1.out.out
  have ZW := Lib.hid T1.out.res
  have BW := Lib.hid T1.out.bel
  have IQ := Lib.hid (msC ⟨m.ki, 0, 0, 0, 0⟩ A n c).info
  have SQ := Lib.hid (ms_size zMs ⟨m.ki, 0, 0, 0, 0⟩ none A 0 0 n c)
  have OQ := Lib.hid (ms_one ⟨m.ki, 0, 0, 0, 0⟩ A n c)
  clear T1
  generalize hC1 : msV ⟨m.ki, 0, 0, 0, 0⟩ A n c = C1 at *
  have HC1 := Lib.hid hC1
  clear hC1
  go_wp2_with (first
    | (refine wpList_load_rowG (by kernel_rfl) 26 (.tmp 3) rfl (w.heap.size + 2) (by kernel_rfl) _ _ _ _ RW.out Try.underlying26 rfl IQ.out ?_)
    | (refine wpList_store_row rfl 26 (.tmp 2) (.tmp 31) rfl (w.heap.size + 1) C1 rfl rfl _ _ ZW.out IQ.out SQ.out OQ.out ?_))
  refine bodyPost_ret (v := .agg C1) (Go.results_cell_row Try.results33 _ _ (w.heap.size + 1) _ _ _ _ (by rfl) (setRow_heap _ _ _ _ _ _ ZW.out) Try.underlying26 rfl IQ.out) rfl ?_
  refine ⟨?_, setR_belowI BW.out (by omega) _⟩
  first | rfl | (rw [← HC1.out]; first | rfl | (rw [eK]; done) | simp only [h3] | simp only [h5] | simp only [h4])
end Go.Proofs.Ytmbfgolcinniiaa.icC

/-
  Whether two messages are the same: the document's.
-/
namespace Go.Proofs.Ytmbfgolcinniiaa.icC
open Go.ChangeShapes Go.WideShapes Go.ChangeAt Go.RowKit
open Go.Proofs.Ytmbfgolcinniiaa.memC Go.Proofs.Ytmbfgolcinniiaa.genC Go.Proofs.Ytmbfgolcinniiaa.butC Go.Proofs.Ytmbfgolcinniiaa.freeC Go.Proofs.Ytmbfgolcinniiaa.adC
set_option linter.unusedVariables false
set_option maxRecDepth 100000 in
set_option maxHeartbeats 8000000 in
theorem rsame_any (p q : Ms) (A A' : Option Addr) (n c n' c' : Nat) (xs ys : List Int) (w : World)
    (hx : Nums .u8 w w.heap.size A n xs) (hy : Nums .u8 w w.heap.size A' n' ys) (yx : ∀ x ∈ xs, Byte x) (yy : ∀ x ∈ ys, Byte x) :
    Calls Try.prog 16 #[.agg (msV p A n c), .agg (msV q A' n' c')] w (Ret w (.bool (sameM p xs q ys))) := by
  have e1 : (w.alloc (.cells (msV p A n c) 26)).heap.size = w.heap.size + 1 := alloc_size _ _
  obtain ⟨W, hW⟩ : ∃ W, W = (w.alloc (.cells (msV p A n c) 26)).alloc (.cells (msV q A' n' c') 26) := ⟨_, rfl⟩
  have R0 : W.heap[w.heap.size]? = some (.cells (msV p A n c) 26 (0, 0)) := by rw [hW, Below.block (alloc_below _ _) _ (by rw [e1]; omega)]; exact heap_alloc_new w _
  have R1 : W.heap[w.heap.size + 1]? = some (.cells (msV q A' n' c') 26 (0, 0)) := by rw [hW, ← e1]; exact heap_alloc_new _ _
  have HB := Lib.hid (show Below w.heap.size w W by rw [hW]; exact ((Below.refl _ _).alloc (Nat.le_refl _) _).alloc (by simp) _)
  have c0 := msC p A n c
  have c1 := msC q A' n' c'
  have k5 := pkC.PkC.cell R0 c0.da
  have j5 := pkC.PkC.cell R1 c1.da
  have hcx := (show (convert 24 9 (.slice A n c)).run Try.prog W = .ok (.string (strOfNums xs)) W from run_string (hx.below HB.out) c 24 5 9 Try.underlying24 Try.underlying5 Try.underlying9)
  have hcy := (show (convert 24 9 (.slice A' n' c')).run Try.prog W = .ok (.string (strOfNums ys)) W from run_string (hy.below HB.out) c' 24 5 9 Try.underlying24 Try.underlying5 Try.underlying9)
  have HS : ((strOfNums xs).toList == (strOfNums ys).toList) = decide (xs = ys) := by
    rw [str_eqb yx yy]
    by_cases h : xs = ys
    · subst h; rw [lexL_self]; simp
    · rw [decide_eq_false h]; exact beq_eq_false_iff_ne.2 fun e => h (lexL_zero _ _ e)
  generalize strOfNums xs = X at *
  generalize strOfNums ys = Y at *
  have k0 := pkC.PkC.cell R0 c0.ki
  have j0 := pkC.PkC.cell R1 c1.ki
  have k1 := pkC.PkC.cell R0 c0.co
  have j1 := pkC.PkC.cell R1 c1.co
  have k2 := pkC.PkC.cell R0 c0.id
  have j2 := pkC.PkC.cell R1 c1.id
  have k3 := pkC.PkC.cell R0 c0.sq
  have j3 := pkC.PkC.cell R1 c1.sq
  have k4 := pkC.PkC.cell R0 c0.mt
  have j4 := pkC.PkC.cell R1 c1.mt
  obtain ⟨V, hV⟩ : ∃ V, V = sameM p xs q ys := ⟨_, rfl⟩
  rw [← hV]
  unfold sameM at hV
  generalize decide (xs = ys) = e5 at *
  generalize msV p A n c = CP at *
  generalize msV q A' n' c' = CQ at *
  generalize p.ki = ki1 at *
  generalize q.ki = ki2 at *
  generalize p.co = co1 at *
  generalize q.co = co2 at *
  generalize p.id = id1 at *
  generalize q.id = id2 at *
  generalize p.sq = sq1 at *
  generalize q.sq = sq2 at *
  generalize p.mt = mt1 at *
  generalize q.mt = mt2 at *
  have HE := Lib.hid HS
  have HV := Lib.hid hV
  clear hx hy yx yy c0 c1 R0 R1 e1 hV HS
  go_enter Try.func16, Try.ntmps16
  try simp only [List.append_eq, List.cons_append, List.nil_append]
  go_upto_region 1 with fail
  rw [← hW]
  clear hW
  by_cases h0 : ki1 = ki2
  · subst h0
    by_cases h1 : co1 = co2
    · subst h1
      by_cases h2 : id1 = id2
      · subst h2
        by_cases h3 : sq1 = sq2
        · subst h3
          by_cases h4 : mt1 = mt2
          · subst h4
            cases e5
            · have hv := Lib.hid (show V = false by rw [HV.out]; simp)
              go_wp2_with (first
                | go_skip
                | (with_reducible refine atC.at_bin .eql 9 ?_; refine wpList_runG (by kernel_rfl) _ (seq_run (T := 9) (S := X) (S' := Y) rfl (by kernel_rfl) (by kernel_rfl) HE.out) ?_))
              go_ret
              exact ⟨ret_bool hv.out.symm, HB.out⟩
            · have hv := Lib.hid (show V = true by rw [HV.out]; simp)
              go_wp2_with (first
                | go_skip
                | (with_reducible refine atC.at_bin .eql 9 ?_; refine wpList_runG (by kernel_rfl) _ (seq_run (T := 9) (S := X) (S' := Y) rfl (by kernel_rfl) (by kernel_rfl) HE.out) ?_))
              go_ret
              exact ⟨ret_bool hv.out.symm, HB.out⟩
          · have hq4 : (mt1 == mt2) = false := beq_eq_false_iff_ne.2 h4
            have hv := Lib.hid (show V = false by rw [HV.out]; simp [h4])
            go_wp2_with (first
              | go_skip
              | (with_reducible refine atC.at_bin .eql 9 ?_; refine wpList_runG (by kernel_rfl) _ (seq_run (T := 9) (S := X) (S' := Y) rfl (by kernel_rfl) (by kernel_rfl) HE.out) ?_))
            go_ret
            exact ⟨ret_bool hv.out.symm, HB.out⟩
        · have hq3 : (sq1 == sq2) = false := beq_eq_false_iff_ne.2 h3
          have hv := Lib.hid (show V = false by rw [HV.out]; simp [h3])
          go_wp2_with (first
            | go_skip
            | (with_reducible refine atC.at_bin .eql 9 ?_; refine wpList_runG (by kernel_rfl) _ (seq_run (T := 9) (S := X) (S' := Y) rfl (by kernel_rfl) (by kernel_rfl) HE.out) ?_))
          go_ret
          exact ⟨ret_bool hv.out.symm, HB.out⟩
      · have hq2 : (id1 == id2) = false := beq_eq_false_iff_ne.2 h2
        have hv := Lib.hid (show V = false by rw [HV.out]; simp [h2])
        go_wp2_with (first
          | go_skip
          | (with_reducible refine atC.at_bin .eql 9 ?_; refine wpList_runG (by kernel_rfl) _ (seq_run (T := 9) (S := X) (S' := Y) rfl (by kernel_rfl) (by kernel_rfl) HE.out) ?_))
        go_ret
        exact ⟨ret_bool hv.out.symm, HB.out⟩
    · have hq1 : (co1 == co2) = false := beq_eq_false_iff_ne.2 h1
      have hv := Lib.hid (show V = false by rw [HV.out]; simp [h1])
      go_wp2_with (first
        | go_skip
        | (with_reducible refine atC.at_bin .eql 9 ?_; refine wpList_runG (by kernel_rfl) _ (seq_run (T := 9) (S := X) (S' := Y) rfl (by kernel_rfl) (by kernel_rfl) HE.out) ?_))
      go_ret
      exact ⟨ret_bool hv.out.symm, HB.out⟩
  · have hq0 : (ki1 == ki2) = false := beq_eq_false_iff_ne.2 h0
    have hv := Lib.hid (show V = false by rw [HV.out]; simp [h0])
    go_wp2_with (first
      | go_skip
      | (with_reducible refine atC.at_bin .eql 9 ?_; refine wpList_runG (by kernel_rfl) _ (seq_run (T := 9) (S := X) (S' := Y) rfl (by kernel_rfl) (by kernel_rfl) HE.out) ?_))
    go_ret
    exact ⟨ret_bool hv.out.symm, HB.out⟩
end Go.Proofs.Ytmbfgolcinniiaa.icC

/-
  Regions that draw their order: an operation behind a guard that may not be wanted.
-/
namespace Go.Proofs.Ytmbfgolcinniiaa.freeC
open Go.ChangeShapes Go.WideShapes Go.ChangeAt Go.RowKit
set_option linter.unusedVariables false
section
variable {P : Program} {L : List Oper} {Q : Exit → Act → World → Prop} {o : Oper} {a : Act} {tab : List (Option Nat)} {G : World → Prop} {V : Nat → Value → World → Prop} {i : Nat}
/-- an operation whose guard may say either -/
theorem step_cnd (need : List Nat) (hn : needs o need = true) {j t : Nat} (hg : o.guard = some (j, true)) (hj : j ∈ need) (hL : (L[j]?).bind (·.dst) = some t) (hl : tab.length = a.tmps.size) (ht : (tab[t]?).join = some j) (c : Bool)
    (hv : ∀ v w, V j v w → v = .bool c) (hu : c = false → ∀ w, V i undef w)
    (h : c = true → ∀ us w, G w → (∀ j, j ∈ need → V j (us j) w) → o.wp P (frame tab a us) w (fun a' w' => ∃ v, a' = (frame tab a us).put o.dst v ∧ G w' ∧ Below w.heap.size w w' ∧ V i v w') Q) : Step P L Q tab a G V i o := by
  intro m us w hG hV hd
  have hy := yield_at (L := L) (us := us) hl hL ht (hv _ _ (hV j (need_ok hn hd j hj)))
  cases c
  · rw [if_neg (by simp [Region.wanted, hg, hy])]
    exact hu rfl w
  · rw [if_pos (show Region.wanted o (yielded L.toArray (frame tab a us).tmps) = true by simp [Region.wanted, hg, hy])]
    exact h rfl us w hG fun j hj => hV j (need_ok hn hd j hj)
end
end Go.Proofs.Ytmbfgolcinniiaa.freeC

/-
  Packets of IPv4, read and turned: plain mathematics over their bytes.
-/
namespace Go.Proofs.Ytmbfgolcinniiaa.pkC
open Go.ChangeShapes Go.WideShapes Go.ChangeAt Go.RowKit
open Go.Proofs.Ytmbfgolcinniiaa.memC Go.Proofs.Ytmbfgolcinniiaa.genC Go.Proofs.Ytmbfgolcinniiaa.adC
set_option linter.unusedVariables false
/-- two bytes as a number -/
def w2 (bs : List Int) (i : Nat) : Int := bs.getD i 0 * 256 + bs.getD (i + 1) 0
end Go.Proofs.Ytmbfgolcinniiaa.pkC

/-
  Numbers and addresses at places of some bytes: the program's.
-/
namespace Go.Proofs.Ytmbfgolcinniiaa.pkC
open Go.ChangeShapes Go.WideShapes Go.ChangeAt Go.RowKit
open Go.Proofs.Ytmbfgolcinniiaa.memC Go.Proofs.Ytmbfgolcinniiaa.genC Go.Proofs.Ytmbfgolcinniiaa.butC Go.Proofs.Ytmbfgolcinniiaa.freeC Go.Proofs.Ytmbfgolcinniiaa.adC
set_option linter.unusedVariables false
/-- b[f:e] -/
theorem cut_two (A : Option Addr) (n c f e : Nat) (h1 : f ≤ e) (h2 : e ≤ c) (w : World) :
    (Instr.slice 24 (.slice A n c) (some (.int .i64 (f : Int))) (some (.int .i64 (e : Int))) none).run Try.prog w = .ok (.slice (if c = f then A else A.map (·.add f)) (e - f) (c - f)) w := by
  have k1 : (f : Int) ≤ (e : Int) := by omega
  have k2 : (e : Int) ≤ (c : Int) := by omega
  by_cases h : c = f
  · subst h
    rw [if_pos rfl]
    go_simp
  · rw [if_neg h]
    go_simp
end Go.Proofs.Ytmbfgolcinniiaa.pkC

/-
  The first of two errors that is one.
-/
namespace Go.Proofs.Ytmbfgolcinniiaa.pkC
open Go.ChangeShapes Go.WideShapes Go.ChangeAt Go.RowKit
open Go.Proofs.Ytmbfgolcinniiaa.memC Go.Proofs.Ytmbfgolcinniiaa.genC Go.Proofs.Ytmbfgolcinniiaa.adC
set_option linter.unusedVariables false
end Go.Proofs.Ytmbfgolcinniiaa.pkC
