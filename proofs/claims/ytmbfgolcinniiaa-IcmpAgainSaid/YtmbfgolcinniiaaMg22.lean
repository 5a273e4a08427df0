/-
  1 texts of a proof, joined.
-/
import Derived.Test.YtmbfgolcinniiaaMg21

/-
  Whether messages may be: the document's.
-/
namespace Go.Proofs.Ytmbfgolcinniiaa.icC
open Go.ChangeShapes Go.WideShapes Go.ChangeAt Go.RowKit
open Go.Proofs.Ytmbfgolcinniiaa.memC Go.Proofs.Ytmbfgolcinniiaa.genC Go.Proofs.Ytmbfgolcinniiaa.butC Go.Proofs.Ytmbfgolcinniiaa.freeC Go.Proofs.Ytmbfgolcinniiaa.adC
set_option linter.unusedVariables false
section
variable {P : Program} {L : List Oper} {Q : Exit → Act → World → Prop} {o : Oper} {a : Act} {tab : List (Option Nat)} {G : World → Prop} {V : Nat → Value → World → Prop} {i : Nat}
theorem yield_undefI {L : List Oper} {tab : List (Option Nat)} {a : Act} {us : Nat → Value} {j t : Nat} (hl : tab.length = a.tmps.size) (hj : (L[j]?).bind (·.dst) = some t) (ht : (tab[t]?).join = some j) (hv : us j = undef) :
    yielded L.toArray (frame tab a us).tmps j = none := by
  have h := frame_get (us := us) hl ht
  have h2 : (L.toArray[j]?).bind (·.dst) = some t := by rw [List.getElem?_toArray]; exact hj
  unfold yielded
  rw [h2]
  simp only [Option.bind_some, h, hv]
  rfl
/-- an operation that is not wanted: its guard says otherwise, or was itself not wanted -/
theorem step_skip (need : List Nat) (hn : needs o need = true) {j t : Nat} {b : Bool} (hg : o.guard = some (j, b)) (hj : j ∈ need) (hL : (L[j]?).bind (·.dst) = some t) (hl : tab.length = a.tmps.size) (ht : (tab[t]?).join = some j)
    (hv : ∀ v w, V j v w → v = .bool (!b) ∨ v = undef) (hu : ∀ w, V i undef w) : Step P L Q tab a G V i o := by
  intro m us w hG hV hd
  rcases hv _ _ (hV j (need_ok hn hd j hj)) with h | h
  · have hy := yield_at (L := L) (us := us) hl hL ht h
    rw [if_neg (by simp [Region.wanted, hg, hy])]
    exact hu w
  · have hy := yield_undefI (L := L) (us := us) hl hL ht h
    rw [if_neg (by simp [Region.wanted, hg, hy])]
    exact hu w
end
def maV (g0 : Nat) (CP CK : Array Value) (ki mt : Int) (A : Option Addr) (n c : Nat) (six : Bool) : Nat → Value → World → Prop
  | 0, v, _ => v = .pointer (some ⟨g0, 0, none⟩)
  | 1, v, _ => v = .int .i64 ki
  | 2, v, _ => v = .bool false
  | 3, v, _ => v = .bool false
  | 4, v, _ => v = undef
  | 5, v, _ => v = undef
  | 6, v, _ => v = undef
  | 7, v, _ => v = .bool false
  | 8, v, _ => v = .bool false
  | 9, v, _ => v = undef
  | 10, v, _ => v = undef
  | 11, v, _ => v = undef
  | 12, v, _ => v = undef
  | 13, v, _ => v = .bool false
  | 14, v, _ => v = .bool false
  | 15, v, _ => v = undef
  | 16, v, _ => v = undef
  | 17, v, _ => v = undef
  | 18, v, _ => v = undef
  | 19, v, _ => v = .bool false
  | 20, v, _ => v = .bool false
  | 21, v, _ => v = undef
  | 22, v, _ => v = undef
  | 23, v, _ => v = undef
  | 24, v, _ => v = undef
  | 25, v, _ => v = undef
  | 26, v, _ => v = undef
  | 27, v, _ => v = .bool false
  | 28, v, _ => v = .bool false
  | _, _, _ => True
theorem maV.keep (g0 : Nat) (CP CK : Array Value) (ki mt : Int) (A : Option Addr) (n c : Nat) (six : Bool) (i : Nat) (v : Value) (w w' : World) (hb : Below w.heap.size w w') (h : maV g0 CP CK ki mt A n c six i v w) : maV g0 CP CK ki mt A n c six i v w' := by
  unfold maV at h ⊢
  split at h <;> exact h
def maT : List (Option Nat) := [none, none, none, none, some 28, some 0, some 1, some 2, some 3, some 4, some 5, some 6, some 7, some 8, some 9, some 10, some 11, some 12, some 13, some 14, some 15, some 16, some 17, some 18, some 19, some 20, some 21, some 22, some 23, some 24, some 25, some 26, some 27]
def mbV (g0 : Nat) (CP CK : Array Value) (ki mt : Int) (A : Option Addr) (n c : Nat) (six : Bool) : Nat → Value → World → Prop
  | 0, v, _ => v = .pointer (some ⟨g0, 0, none⟩)
  | 1, v, _ => v = .int .i64 ki
  | 2, v, _ => v = .bool true
  | 3, v, _ => v = .bool true
  | 4, v, _ => v = .pointer (some ⟨g0, 0, none⟩)
  | 5, v, _ => v = .int .i64 ki
  | 6, v, _ => v = .bool false
  | 7, v, _ => v = .bool false
  | 8, v, _ => v = .bool false
  | 9, v, _ => v = undef
  | 10, v, _ => v = undef
  | 11, v, _ => v = undef
  | 12, v, _ => v = undef
  | 13, v, _ => v = .bool false
  | 14, v, _ => v = .bool false
  | 15, v, _ => v = undef
  | 16, v, _ => v = undef
  | 17, v, _ => v = undef
  | 18, v, _ => v = undef
  | 19, v, _ => v = .bool false
  | 20, v, _ => v = .bool false
  | 21, v, _ => v = undef
  | 22, v, _ => v = undef
  | 23, v, _ => v = undef
  | 24, v, _ => v = undef
  | 25, v, _ => v = undef
  | 26, v, _ => v = undef
  | 27, v, _ => v = .bool false
  | 28, v, _ => v = .bool false
  | _, _, _ => True
theorem mbV.keep (g0 : Nat) (CP CK : Array Value) (ki mt : Int) (A : Option Addr) (n c : Nat) (six : Bool) (i : Nat) (v : Value) (w w' : World) (hb : Below w.heap.size w w') (h : mbV g0 CP CK ki mt A n c six i v w) : mbV g0 CP CK ki mt A n c six i v w' := by
  unfold mbV at h ⊢
  split at h <;> exact h
def mbT : List (Option Nat) := [none, none, none, none, some 28, some 0, some 1, some 2, some 3, some 4, some 5, some 6, some 7, some 8, some 9, some 10, some 11, some 12, some 13, some 14, some 15, some 16, some 17, some 18, some 19, some 20, some 21, some 22, some 23, some 24, some 25, some 26, some 27]
def mcV (g0 : Nat) (CP CK : Array Value) (ki mt : Int) (A : Option Addr) (n c : Nat) (six : Bool) : Nat → Value → World → Prop
  | 0, v, _ => v = .pointer (some ⟨g0, 0, none⟩)
  | 1, v, _ => v = .int .i64 ki
  | 2, v, _ => v = .bool true
  | 3, v, _ => v = .bool true
  | 4, v, _ => v = .pointer (some ⟨g0, 0, none⟩)
  | 5, v, _ => v = .int .i64 ki
  | 6, v, _ => v = .bool true
  | 7, v, _ => v = .bool true
  | 8, v, _ => v = .bool true
  | 9, v, _ => v = .agg CP
  | 10, v, _ => v = .agg CK
  | 11, v, _ => v = .agg CP
  | 12, v, _ => v = .bool false
  | 13, v, _ => v = .bool false
  | 14, v, _ => v = .bool false
  | 15, v, _ => v = undef
  | 16, v, _ => v = undef
  | 17, v, _ => v = undef
  | 18, v, _ => v = undef
  | 19, v, _ => v = .bool false
  | 20, v, _ => v = .bool false
  | 21, v, _ => v = undef
  | 22, v, _ => v = undef
  | 23, v, _ => v = undef
  | 24, v, _ => v = undef
  | 25, v, _ => v = undef
  | 26, v, _ => v = undef
  | 27, v, _ => v = .bool false
  | 28, v, _ => v = .bool false
  | _, _, _ => True
theorem mcV.keep (g0 : Nat) (CP CK : Array Value) (ki mt : Int) (A : Option Addr) (n c : Nat) (six : Bool) (i : Nat) (v : Value) (w w' : World) (hb : Below w.heap.size w w') (h : mcV g0 CP CK ki mt A n c six i v w) : mcV g0 CP CK ki mt A n c six i v w' := by
  unfold mcV at h ⊢
  split at h <;> exact h
def mcT : List (Option Nat) := [none, none, none, none, some 28, some 0, some 1, some 2, some 3, some 4, some 5, some 6, some 7, some 8, some 9, some 10, some 11, some 12, some 13, some 14, some 15, some 16, some 17, some 18, some 19, some 20, some 21, some 22, some 23, some 24, some 25, some 26, some 27]
def mdV (g0 : Nat) (CP CK : Array Value) (ki mt : Int) (A : Option Addr) (n c : Nat) (six : Bool) : Nat → Value → World → Prop
  | 0, v, _ => v = .pointer (some ⟨g0, 0, none⟩)
  | 1, v, _ => v = .int .i64 ki
  | 2, v, _ => v = .bool true
  | 3, v, _ => v = .bool true
  | 4, v, _ => v = .pointer (some ⟨g0, 0, none⟩)
  | 5, v, _ => v = .int .i64 ki
  | 6, v, _ => v = .bool true
  | 7, v, _ => v = .bool true
  | 8, v, _ => v = .bool true
  | 9, v, _ => v = .agg CP
  | 10, v, _ => v = .agg CK
  | 11, v, _ => v = .agg CP
  | 12, v, _ => v = .bool true
  | 13, v, _ => v = .bool true
  | 14, v, _ => v = .bool true
  | 15, v, _ => v = .pointer (some ⟨g0, 5, none⟩)
  | 16, v, _ => v = .slice A n c
  | 17, v, _ => v = .int .i64 n
  | 18, v, _ => v = .bool false
  | 19, v, _ => v = .bool false
  | 20, v, _ => v = .bool false
  | 21, v, _ => v = undef
  | 22, v, _ => v = undef
  | 23, v, _ => v = undef
  | 24, v, _ => v = undef
  | 25, v, _ => v = undef
  | 26, v, _ => v = undef
  | 27, v, _ => v = .bool false
  | 28, v, _ => v = .bool false
  | _, _, _ => True
theorem mdV.keep (g0 : Nat) (CP CK : Array Value) (ki mt : Int) (A : Option Addr) (n c : Nat) (six : Bool) (i : Nat) (v : Value) (w w' : World) (hb : Below w.heap.size w w') (h : mdV g0 CP CK ki mt A n c six i v w) : mdV g0 CP CK ki mt A n c six i v w' := by
  unfold mdV at h ⊢
  split at h <;> exact h
def mdT : List (Option Nat) := [none, none, none, none, some 28, some 0, some 1, some 2, some 3, some 4, some 5, some 6, some 7, some 8, some 9, some 10, some 11, some 12, some 13, some 14, some 15, some 16, some 17, some 18, some 19, some 20, some 21, some 22, some 23, some 24, some 25, some 26, some 27]
def meV (g0 : Nat) (CP CK : Array Value) (ki mt : Int) (A : Option Addr) (n c : Nat) (six : Bool) : Nat → Value → World → Prop
  | 0, v, _ => v = .pointer (some ⟨g0, 0, none⟩)
  | 1, v, _ => v = .int .i64 ki
  | 2, v, _ => v = .bool true
  | 3, v, _ => v = .bool true
  | 4, v, _ => v = .pointer (some ⟨g0, 0, none⟩)
  | 5, v, _ => v = .int .i64 ki
  | 6, v, _ => v = .bool true
  | 7, v, _ => v = .bool true
  | 8, v, _ => v = .bool true
  | 9, v, _ => v = .agg CP
  | 10, v, _ => v = .agg CK
  | 11, v, _ => v = .agg CP
  | 12, v, _ => v = .bool true
  | 13, v, _ => v = .bool true
  | 14, v, _ => v = .bool true
  | 15, v, _ => v = .pointer (some ⟨g0, 5, none⟩)
  | 16, v, _ => v = .slice A n c
  | 17, v, _ => v = .int .i64 n
  | 18, v, _ => v = .bool true
  | 19, v, _ => v = .bool true
  | 20, v, _ => v = .bool true
  | 21, v, _ => v = .bool true
  | 22, v, _ => v = .bool true
  | 23, v, _ => v = undef
  | 24, v, _ => v = undef
  | 25, v, _ => v = undef
  | 26, v, _ => v = .bool true
  | 27, v, _ => v = .bool true
  | 28, v, _ => v = .bool true
  | _, _, _ => True
theorem meV.keep (g0 : Nat) (CP CK : Array Value) (ki mt : Int) (A : Option Addr) (n c : Nat) (six : Bool) (i : Nat) (v : Value) (w w' : World) (hb : Below w.heap.size w w') (h : meV g0 CP CK ki mt A n c six i v w) : meV g0 CP CK ki mt A n c six i v w' := by
  unfold meV at h ⊢
  split at h <;> exact h
def meT : List (Option Nat) := [none, none, none, none, some 28, some 0, some 1, some 2, some 3, some 4, some 5, some 6, some 7, some 8, some 9, some 10, some 11, some 12, some 13, some 14, some 15, some 16, some 17, some 18, some 19, some 20, some 21, some 22, some 23, some 24, some 25, some 26, some 27]
def mfV (g0 : Nat) (CP CK : Array Value) (ki mt : Int) (A : Option Addr) (n c : Nat) (six : Bool) : Nat → Value → World → Prop
  | 0, v, _ => v = .pointer (some ⟨g0, 0, none⟩)
  | 1, v, _ => v = .int .i64 ki
  | 2, v, _ => v = .bool true
  | 3, v, _ => v = .bool true
  | 4, v, _ => v = .pointer (some ⟨g0, 0, none⟩)
  | 5, v, _ => v = .int .i64 ki
  | 6, v, _ => v = .bool true
  | 7, v, _ => v = .bool true
  | 8, v, _ => v = .bool true
  | 9, v, _ => v = .agg CP
  | 10, v, _ => v = .agg CK
  | 11, v, _ => v = .agg CP
  | 12, v, _ => v = .bool true
  | 13, v, _ => v = .bool true
  | 14, v, _ => v = .bool true
  | 15, v, _ => v = .pointer (some ⟨g0, 5, none⟩)
  | 16, v, _ => v = .slice A n c
  | 17, v, _ => v = .int .i64 n
  | 18, v, _ => v = .bool true
  | 19, v, _ => v = .bool true
  | 20, v, _ => v = .bool true
  | 21, v, _ => v = .bool false
  | 22, v, _ => v = .bool false
  | 23, v, _ => v = .pointer (some ⟨g0, 4, none⟩)
  | 24, v, _ => v = .int .u32 mt
  | 25, v, _ => v = .bool false
  | 26, v, _ => v = .bool false
  | 27, v, _ => v = .bool false
  | 28, v, _ => v = .bool false
  | _, _, _ => True
theorem mfV.keep (g0 : Nat) (CP CK : Array Value) (ki mt : Int) (A : Option Addr) (n c : Nat) (six : Bool) (i : Nat) (v : Value) (w w' : World) (hb : Below w.heap.size w w') (h : mfV g0 CP CK ki mt A n c six i v w) : mfV g0 CP CK ki mt A n c six i v w' := by
  unfold mfV at h ⊢
  split at h <;> exact h
def mfT : List (Option Nat) := [none, none, none, none, some 28, some 0, some 1, some 2, some 3, some 4, some 5, some 6, some 7, some 8, some 9, some 10, some 11, some 12, some 13, some 14, some 15, some 16, some 17, some 18, some 19, some 20, some 21, some 22, some 23, some 24, some 25, some 26, some 27]
def mgV (g0 : Nat) (CP CK : Array Value) (ki mt : Int) (A : Option Addr) (n c : Nat) (six : Bool) : Nat → Value → World → Prop
  | 0, v, _ => v = .pointer (some ⟨g0, 0, none⟩)
  | 1, v, _ => v = .int .i64 ki
  | 2, v, _ => v = .bool true
  | 3, v, _ => v = .bool true
  | 4, v, _ => v = .pointer (some ⟨g0, 0, none⟩)
  | 5, v, _ => v = .int .i64 ki
  | 6, v, _ => v = .bool true
  | 7, v, _ => v = .bool true
  | 8, v, _ => v = .bool true
  | 9, v, _ => v = .agg CP
  | 10, v, _ => v = .agg CK
  | 11, v, _ => v = .agg CP
  | 12, v, _ => v = .bool true
  | 13, v, _ => v = .bool true
  | 14, v, _ => v = .bool true
  | 15, v, _ => v = .pointer (some ⟨g0, 5, none⟩)
  | 16, v, _ => v = .slice A n c
  | 17, v, _ => v = .int .i64 n
  | 18, v, _ => v = .bool true
  | 19, v, _ => v = .bool true
  | 20, v, _ => v = .bool true
  | 21, v, _ => v = .bool false
  | 22, v, _ => v = .bool false
  | 23, v, _ => v = .pointer (some ⟨g0, 4, none⟩)
  | 24, v, _ => v = .int .u32 mt
  | 25, v, _ => v = .bool true
  | 26, v, _ => v = .bool true
  | 27, v, _ => v = .bool true
  | 28, v, _ => v = .bool true
  | _, _, _ => True
theorem mgV.keep (g0 : Nat) (CP CK : Array Value) (ki mt : Int) (A : Option Addr) (n c : Nat) (six : Bool) (i : Nat) (v : Value) (w w' : World) (hb : Below w.heap.size w w') (h : mgV g0 CP CK ki mt A n c six i v w) : mgV g0 CP CK ki mt A n c six i v w' := by
  unfold mgV at h ⊢
  split at h <;> exact h
def mgT : List (Option Nat) := [none, none, none, none, some 28, some 0, some 1, some 2, some 3, some 4, some 5, some 6, some 7, some 8, some 9, some 10, some 11, some 12, some 13, some 14, some 15, some 16, some 17, some 18, some 19, some 20, some 21, some 22, some 23, some 24, some 25, some 26, some 27]
set_option maxRecDepth 100000 in
set_option maxHeartbeats 4000000 in
theorem rmay_any (m : Ms) (A : Option Addr) (n c : Nat) (six : Bool) (xs : List Int) (w : World) (hx : Nums .u8 w w.heap.size A n xs) (yx : ∀ x ∈ xs, Byte x) :
    Calls Try.prog 14 #[.agg (msV m A n c), .bool six] w (Ret w (.bool (mayM m n six))) := by
  obtain ⟨W, hW⟩ : ∃ W, W = w.alloc (.cells (msV m A n c) 26) := ⟨_, rfl⟩
  have R : W.heap[w.heap.size]? = some (.cells (msV m A n c) 26 (0, 0)) := by rw [hW]; exact heap_alloc_new _ _
  have HB := Lib.hid (show Below w.heap.size w W by rw [hW]; exact alloc_below _ _)
  have KRX := Lib.hid (fun (w' : World) (h : Gr W w') => (show w'.heap[w.heap.size]? = some (.cells (msV m A n c) 26 (0, 0)) by rw [Below.block h _ (lt_of_rowI R)]; exact R))
  have OC := msC m A n c
  have K0 := Lib.hid (fun w' (h : Gr W w') => pkC.PkC.cell (KRX.out w' h) OC.ki)
  have K4 := Lib.hid (fun w' (h : Gr W w') => pkC.PkC.cell (KRX.out w' h) OC.mt)
  have K5 := Lib.hid (fun w' (h : Gr W w') => pkC.PkC.cell (KRX.out w' h) OC.da)
  have IP := Lib.hid OC.info
  have NX := fun (w' : World) (h : Gr W w') => (hx.below (HB.out.trans (Below.mono h HB.out.size))).more (Nat.le_trans HB.out.size (Below.size h))
  have KT := Lib.hid (fun w' => kept_any m A n c w')
  have SM := Lib.hid (fun w' (h : Gr W w') => (show Calls Try.prog 16 #[.agg (msV (keptM m) A n c), .agg (msV m A n c)] w' (Ret w' (.bool (decide (keptM m = m)))) by
    have h9 := rsame_any (keptM m) m A A n c n c xs xs w' (NX w' h) (NX w' h) yx yx
    rw [same_kept] at h9
    exact h9))
  obtain ⟨V, hV⟩ : ∃ V, V = mayM m n six := ⟨_, rfl⟩
  rw [← hV]
  unfold mayM at hV
  have HV0 := Lib.hid hV
  generalize msV (keptM m) A n c = CK at *
  generalize msV m A n c = CP at *
  generalize decide (keptM m = m) = b0 at *
  generalize m.ki = ki at *
  generalize m.mt = mt at *
  clear OC hV hx yx NX R
  by_cases h1 : 1 ≤ ki
  rotate_left
  · have Q1 := Lib.hid (show decide (ki ≥ 1) = false from decide_eq_false h1)
    have HV := Lib.hid (show V = false by rw [HV0.out, decide_eq_false h1]; rfl)
    clear HV0 h1
    go_enter Try.func14, Try.ntmps14
    go_upto_region 1 with fail
    rw [← hW]
    clear hW
    refine with_act fun a0 ha0 => ?_
    have hl : maT.length = a0.tmps.size := by rw [ha0]; rfl
    have k1 : a0.tmps[1]?.getD undef = .bool six := by rw [ha0]; rfl
    have k2 : a0.tmps[2]?.getD undef = .pointer (some ⟨w.heap.size, 0, none⟩) := by rw [ha0]; rfl
    refine wp_region_vals (by kernel_rfl) maT (by kernel_rfl) (by kernel_rfl) hl (fun i => if i = 28 then .bool false else undef) (by rw [ha0]; rfl) (Gr W) (maV w.heap.size CP CK ki mt A n c six) (show Gr _ _ from (Below.refl _ _).drew) (maV.keep _ _ _ _ _ _ _ _ _) ⟨?_, ?_, ?_, ?_, ?_, ?_, ?_, ?_, ?_, ?_, ?_, ?_, ?_, ?_, ?_, ?_, ?_, ?_, ?_, ?_, ?_, ?_, ?_, ?_, ?_, ?_, ?_, ?_, ?_, trivial⟩ ?_
    · refine step_plain [] (by kernel_rfl) rfl fun us w' hG hV => ?_
      have o2 := (frame_old2 (us := us) (a := a0) (show (maT[2]?).join = none from rfl)).trans k2
      generalize frame maT a0 us = fr at *
      exact val_ok (v := .pointer (some ⟨w.heap.size, 0, none⟩)) (w' := w') (by go_simp) hG (Below.refl _ _) rfl
    · refine step_plain [0] (by kernel_rfl) rfl fun us w' hG hV => ?_
      have e0 : us 0 = .pointer (some ⟨w.heap.size, 0, none⟩) := hV 0 (by simp)
      have v0 := (frame_at2 (us := us) hl (show (maT[5]?).join = some 0 from rfl)).trans e0
      have hc := K0.out w' hG
      generalize frame maT a0 us = fr at *
      exact val_ok (v := .int .i64 ki) (w' := w') (by go_simp) hG (Below.refl _ _) rfl
    · refine step_plain [1] (by kernel_rfl) rfl fun us w' hG hV => ?_
      have e1 : us 1 = .int .i64 ki := hV 1 (by simp)
      have v1 := (frame_at2 (us := us) hl (show (maT[6]?).join = some 1 from rfl)).trans e1
      have q := Q1.out
      generalize frame maT a0 us = fr at *
      exact val_ok (v := .bool false) (w' := w') (by go_simp) hG (Below.refl _ _) rfl
    · refine step_plain [2] (by kernel_rfl) rfl fun us w' hG hV => ?_
      have e2 : us 2 = .bool false := hV 2 (by simp)
      have v2 := (frame_at2 (us := us) hl (show (maT[7]?).join = some 2 from rfl)).trans e2
      generalize frame maT a0 us = fr at *
      exact val_ok (v := .bool false) (w' := w') (by go_simp) hG (Below.refl _ _) rfl
    · exact step_skip [3] (by kernel_rfl) (j := 3) (t := 8) (b := true) rfl (by simp) rfl hl rfl (fun v w h => .inl h) fun _ => rfl
    · exact step_skip [3] (by kernel_rfl) (j := 3) (t := 8) (b := true) rfl (by simp) rfl hl rfl (fun v w h => .inl h) fun _ => rfl
    · exact step_skip [3] (by kernel_rfl) (j := 3) (t := 8) (b := true) rfl (by simp) rfl hl rfl (fun v w h => .inl h) fun _ => rfl
    · refine step_plain [3] (by kernel_rfl) rfl fun us w' hG hV => ?_
      have e3 : us 3 = .bool false := hV 3 (by simp)
      have v3 := (frame_at2 (us := us) hl (show (maT[8]?).join = some 3 from rfl)).trans e3
      generalize frame maT a0 us = fr at *
      exact val_ok (v := .bool false) (w' := w') (by go_simp) hG (Below.refl _ _) rfl
    · refine step_plain [7] (by kernel_rfl) rfl fun us w' hG hV => ?_
      have e7 : us 7 = .bool false := hV 7 (by simp)
      have v7 := (frame_at2 (us := us) hl (show (maT[12]?).join = some 7 from rfl)).trans e7
      generalize frame maT a0 us = fr at *
      exact val_ok (v := .bool false) (w' := w') (by go_simp) hG (Below.refl _ _) rfl
    · exact step_skip [8] (by kernel_rfl) (j := 8) (t := 13) (b := true) rfl (by simp) rfl hl rfl (fun v w h => .inl h) fun _ => rfl
    · exact step_skip [8] (by kernel_rfl) (j := 8) (t := 13) (b := true) rfl (by simp) rfl hl rfl (fun v w h => .inl h) fun _ => rfl
    · exact step_skip [8] (by kernel_rfl) (j := 8) (t := 13) (b := true) rfl (by simp) rfl hl rfl (fun v w h => .inl h) fun _ => rfl
    · exact step_skip [8] (by kernel_rfl) (j := 8) (t := 13) (b := true) rfl (by simp) rfl hl rfl (fun v w h => .inl h) fun _ => rfl
    · refine step_plain [8] (by kernel_rfl) rfl fun us w' hG hV => ?_
      have e8 : us 8 = .bool false := hV 8 (by simp)
      have v8 := (frame_at2 (us := us) hl (show (maT[13]?).join = some 8 from rfl)).trans e8
      generalize frame maT a0 us = fr at *
      exact val_ok (v := .bool false) (w' := w') (by go_simp) hG (Below.refl _ _) rfl
    · refine step_plain [13] (by kernel_rfl) rfl fun us w' hG hV => ?_
      have e13 : us 13 = .bool false := hV 13 (by simp)
      have v13 := (frame_at2 (us := us) hl (show (maT[18]?).join = some 13 from rfl)).trans e13
      generalize frame maT a0 us = fr at *
      exact val_ok (v := .bool false) (w' := w') (by go_simp) hG (Below.refl _ _) rfl
    · exact step_skip [14] (by kernel_rfl) (j := 14) (t := 19) (b := true) rfl (by simp) rfl hl rfl (fun v w h => .inl h) fun _ => rfl
    · exact step_skip [14] (by kernel_rfl) (j := 14) (t := 19) (b := true) rfl (by simp) rfl hl rfl (fun v w h => .inl h) fun _ => rfl
    · exact step_skip [14] (by kernel_rfl) (j := 14) (t := 19) (b := true) rfl (by simp) rfl hl rfl (fun v w h => .inl h) fun _ => rfl
    · exact step_skip [14] (by kernel_rfl) (j := 14) (t := 19) (b := true) rfl (by simp) rfl hl rfl (fun v w h => .inl h) fun _ => rfl
    · refine step_plain [14] (by kernel_rfl) rfl fun us w' hG hV => ?_
      have e14 : us 14 = .bool false := hV 14 (by simp)
      have v14 := (frame_at2 (us := us) hl (show (maT[19]?).join = some 14 from rfl)).trans e14
      generalize frame maT a0 us = fr at *
      exact val_ok (v := .bool false) (w' := w') (by go_simp) hG (Below.refl _ _) rfl
    · refine step_plain [19] (by kernel_rfl) rfl fun us w' hG hV => ?_
      have e19 : us 19 = .bool false := hV 19 (by simp)
      have v19 := (frame_at2 (us := us) hl (show (maT[24]?).join = some 19 from rfl)).trans e19
      generalize frame maT a0 us = fr at *
      exact val_ok (v := .bool false) (w' := w') (by go_simp) hG (Below.refl _ _) rfl
    · exact step_skip [20] (by kernel_rfl) (j := 20) (t := 25) (b := true) rfl (by simp) rfl hl rfl (fun v w h => .inl h) fun _ => rfl
    · exact step_skip [20] (by kernel_rfl) (j := 20) (t := 25) (b := true) rfl (by simp) rfl hl rfl (fun v w h => .inl h) fun _ => rfl
    · exact step_skip [22] (by kernel_rfl) (j := 22) (t := 27) (b := false) rfl (by simp) rfl hl rfl (fun v w h => .inr h) fun _ => rfl
    · exact step_skip [22] (by kernel_rfl) (j := 22) (t := 27) (b := false) rfl (by simp) rfl hl rfl (fun v w h => .inr h) fun _ => rfl
    · exact step_skip [22] (by kernel_rfl) (j := 22) (t := 27) (b := false) rfl (by simp) rfl hl rfl (fun v w h => .inr h) fun _ => rfl
    · exact step_skip [20] (by kernel_rfl) (j := 20) (t := 25) (b := true) rfl (by simp) rfl hl rfl (fun v w h => .inl h) fun _ => rfl
    · refine step_plain [20] (by kernel_rfl) rfl fun us w' hG hV => ?_
      have e20 : us 20 = .bool false := hV 20 (by simp)
      have v20 := (frame_at2 (us := us) hl (show (maT[25]?).join = some 20 from rfl)).trans e20
      generalize frame maT a0 us = fr at *
      exact val_ok (v := .bool false) (w' := w') (by go_simp) hG (Below.refl _ _) rfl
    · refine step_plain [27] (by kernel_rfl) rfl fun us w' hG hV => ?_
      have e27 : us 27 = .bool false := hV 27 (by simp)
      have v27 := (frame_at2 (us := us) hl (show (maT[32]?).join = some 27 from rfl)).trans e27
      generalize frame maT a0 us = fr at *
      exact val_ok (v := .bool false) (w' := w') (by go_simp) hG (Below.refl _ _) rfl
    · intro us w5 hG hV
      have e8 : us 28 = .bool false := hV 28 (by decide)
      subst ha0
      simp only [frame, maT, fill]
      rw [e8]
      have HG3 := Lib.hid hG
      clear hV hl hG k1 k2 e8
      go_wp2_with fail
      go_ret
      exact ⟨ret_bool HV.out.symm, HB.out.trans (Below.mono HG3.out HB.out.size)⟩
  have Q1 := Lib.hid (show decide (ki ≥ 1) = true from decide_eq_true h1)
  by_cases h2 : ki ≤ 5
  rotate_left
  · have Q2 := Lib.hid (show decide (ki ≤ 5) = false from decide_eq_false h2)
    have HV := Lib.hid (show V = false by rw [HV0.out, decide_eq_false h2, decide_eq_true h1]; rfl)
    clear HV0 h1 h2
    go_enter Try.func14, Try.ntmps14
    go_upto_region 1 with fail
    rw [← hW]
    clear hW
    refine with_act fun a0 ha0 => ?_
    have hl : mbT.length = a0.tmps.size := by rw [ha0]; rfl
    have k1 : a0.tmps[1]?.getD undef = .bool six := by rw [ha0]; rfl
    have k2 : a0.tmps[2]?.getD undef = .pointer (some ⟨w.heap.size, 0, none⟩) := by rw [ha0]; rfl
    refine wp_region_vals (by kernel_rfl) mbT (by kernel_rfl) (by kernel_rfl) hl (fun i => if i = 28 then .bool false else undef) (by rw [ha0]; rfl) (Gr W) (mbV w.heap.size CP CK ki mt A n c six) (show Gr _ _ from (Below.refl _ _).drew) (mbV.keep _ _ _ _ _ _ _ _ _) ⟨?_, ?_, ?_, ?_, ?_, ?_, ?_, ?_, ?_, ?_, ?_, ?_, ?_, ?_, ?_, ?_, ?_, ?_, ?_, ?_, ?_, ?_, ?_, ?_, ?_, ?_, ?_, ?_, ?_, trivial⟩ ?_
    · refine step_plain [] (by kernel_rfl) rfl fun us w' hG hV => ?_
      have o2 := (frame_old2 (us := us) (a := a0) (show (mbT[2]?).join = none from rfl)).trans k2
      generalize frame mbT a0 us = fr at *
      exact val_ok (v := .pointer (some ⟨w.heap.size, 0, none⟩)) (w' := w') (by go_simp) hG (Below.refl _ _) rfl
    · refine step_plain [0] (by kernel_rfl) rfl fun us w' hG hV => ?_
      have e0 : us 0 = .pointer (some ⟨w.heap.size, 0, none⟩) := hV 0 (by simp)
      have v0 := (frame_at2 (us := us) hl (show (mbT[5]?).join = some 0 from rfl)).trans e0
      have hc := K0.out w' hG
      generalize frame mbT a0 us = fr at *
      exact val_ok (v := .int .i64 ki) (w' := w') (by go_simp) hG (Below.refl _ _) rfl
    · refine step_plain [1] (by kernel_rfl) rfl fun us w' hG hV => ?_
      have e1 : us 1 = .int .i64 ki := hV 1 (by simp)
      have v1 := (frame_at2 (us := us) hl (show (mbT[6]?).join = some 1 from rfl)).trans e1
      have q := Q1.out
      generalize frame mbT a0 us = fr at *
      exact val_ok (v := .bool true) (w' := w') (by go_simp) hG (Below.refl _ _) rfl
    · refine step_plain [2] (by kernel_rfl) rfl fun us w' hG hV => ?_
      have e2 : us 2 = .bool true := hV 2 (by simp)
      have v2 := (frame_at2 (us := us) hl (show (mbT[7]?).join = some 2 from rfl)).trans e2
      generalize frame mbT a0 us = fr at *
      exact val_ok (v := .bool true) (w' := w') (by go_simp) hG (Below.refl _ _) rfl
    · refine step_guard [3] (by kernel_rfl) (j := 3) (t := 8) (b := true) rfl (by simp) rfl hl rfl (fun v w h => h) fun us w' hG hV => ?_
      have o2 := (frame_old2 (us := us) (a := a0) (show (mbT[2]?).join = none from rfl)).trans k2
      generalize frame mbT a0 us = fr at *
      exact val_ok (v := .pointer (some ⟨w.heap.size, 0, none⟩)) (w' := w') (by go_simp) hG (Below.refl _ _) rfl
    · refine step_guard [3, 4] (by kernel_rfl) (j := 3) (t := 8) (b := true) rfl (by simp) rfl hl rfl (fun v w h => h) fun us w' hG hV => ?_
      have e4 : us 4 = .pointer (some ⟨w.heap.size, 0, none⟩) := hV 4 (by simp)
      have v4 := (frame_at2 (us := us) hl (show (mbT[9]?).join = some 4 from rfl)).trans e4
      have hc := K0.out w' hG
      generalize frame mbT a0 us = fr at *
      exact val_ok (v := .int .i64 ki) (w' := w') (by go_simp) hG (Below.refl _ _) rfl
    · refine step_guard [3, 5] (by kernel_rfl) (j := 3) (t := 8) (b := true) rfl (by simp) rfl hl rfl (fun v w h => h) fun us w' hG hV => ?_
      have e5 : us 5 = .int .i64 ki := hV 5 (by simp)
      have v5 := (frame_at2 (us := us) hl (show (mbT[10]?).join = some 5 from rfl)).trans e5
      have q := Q2.out
      generalize frame mbT a0 us = fr at *
      exact val_ok (v := .bool false) (w' := w') (by go_simp) hG (Below.refl _ _) rfl
    · refine step_plain [3, 6] (by kernel_rfl) rfl fun us w' hG hV => ?_
      have e3 : us 3 = .bool true := hV 3 (by simp)
      have v3 := (frame_at2 (us := us) hl (show (mbT[8]?).join = some 3 from rfl)).trans e3
      have e6 : us 6 = .bool false := hV 6 (by simp)
      have v6 := (frame_at2 (us := us) hl (show (mbT[11]?).join = some 6 from rfl)).trans e6
      generalize frame mbT a0 us = fr at *
      exact val_ok (v := .bool false) (w' := w') (by go_simp) hG (Below.refl _ _) rfl
    · refine step_plain [7] (by kernel_rfl) rfl fun us w' hG hV => ?_
      have e7 : us 7 = .bool false := hV 7 (by simp)
      have v7 := (frame_at2 (us := us) hl (show (mbT[12]?).join = some 7 from rfl)).trans e7
      generalize frame mbT a0 us = fr at *
      exact val_ok (v := .bool false) (w' := w') (by go_simp) hG (Below.refl _ _) rfl
    · exact step_skip [8] (by kernel_rfl) (j := 8) (t := 13) (b := true) rfl (by simp) rfl hl rfl (fun v w h => .inl h) fun _ => rfl
    · exact step_skip [8] (by kernel_rfl) (j := 8) (t := 13) (b := true) rfl (by simp) rfl hl rfl (fun v w h => .inl h) fun _ => rfl
    · exact step_skip [8] (by kernel_rfl) (j := 8) (t := 13) (b := true) rfl (by simp) rfl hl rfl (fun v w h => .inl h) fun _ => rfl
    · exact step_skip [8] (by kernel_rfl) (j := 8) (t := 13) (b := true) rfl (by simp) rfl hl rfl (fun v w h => .inl h) fun _ => rfl
    · refine step_plain [8] (by kernel_rfl) rfl fun us w' hG hV => ?_
      have e8 : us 8 = .bool false := hV 8 (by simp)
      have v8 := (frame_at2 (us := us) hl (show (mbT[13]?).join = some 8 from rfl)).trans e8
      generalize frame mbT a0 us = fr at *
      exact val_ok (v := .bool false) (w' := w') (by go_simp) hG (Below.refl _ _) rfl
    · refine step_plain [13] (by kernel_rfl) rfl fun us w' hG hV => ?_
      have e13 : us 13 = .bool false := hV 13 (by simp)
      have v13 := (frame_at2 (us := us) hl (show (mbT[18]?).join = some 13 from rfl)).trans e13
      generalize frame mbT a0 us = fr at *
      exact val_ok (v := .bool false) (w' := w') (by go_simp) hG (Below.refl _ _) rfl
    · exact step_skip [14] (by kernel_rfl) (j := 14) (t := 19) (b := true) rfl (by simp) rfl hl rfl (fun v w h => .inl h) fun _ => rfl
    · exact step_skip [14] (by kernel_rfl) (j := 14) (t := 19) (b := true) rfl (by simp) rfl hl rfl (fun v w h => .inl h) fun _ => rfl
    · exact step_skip [14] (by kernel_rfl) (j := 14) (t := 19) (b := true) rfl (by simp) rfl hl rfl (fun v w h => .inl h) fun _ => rfl
    · exact step_skip [14] (by kernel_rfl) (j := 14) (t := 19) (b := true) rfl (by simp) rfl hl rfl (fun v w h => .inl h) fun _ => rfl
    · refine step_plain [14] (by kernel_rfl) rfl fun us w' hG hV => ?_
      have e14 : us 14 = .bool false := hV 14 (by simp)
      have v14 := (frame_at2 (us := us) hl (show (mbT[19]?).join = some 14 from rfl)).trans e14
      generalize frame mbT a0 us = fr at *
      exact val_ok (v := .bool false) (w' := w') (by go_simp) hG (Below.refl _ _) rfl
    · refine step_plain [19] (by kernel_rfl) rfl fun us w' hG hV => ?_
      have e19 : us 19 = .bool false := hV 19 (by simp)
      have v19 := (frame_at2 (us := us) hl (show (mbT[24]?).join = some 19 from rfl)).trans e19
      generalize frame mbT a0 us = fr at *
      exact val_ok (v := .bool false) (w' := w') (by go_simp) hG (Below.refl _ _) rfl
    · exact step_skip [20] (by kernel_rfl) (j := 20) (t := 25) (b := true) rfl (by simp) rfl hl rfl (fun v w h => .inl h) fun _ => rfl
    · exact step_skip [20] (by kernel_rfl) (j := 20) (t := 25) (b := true) rfl (by simp) rfl hl rfl (fun v w h => .inl h) fun _ => rfl
    · exact step_skip [22] (by kernel_rfl) (j := 22) (t := 27) (b := false) rfl (by simp) rfl hl rfl (fun v w h => .inr h) fun _ => rfl
    · exact step_skip [22] (by kernel_rfl) (j := 22) (t := 27) (b := false) rfl (by simp) rfl hl rfl (fun v w h => .inr h) fun _ => rfl
    · exact step_skip [22] (by kernel_rfl) (j := 22) (t := 27) (b := false) rfl (by simp) rfl hl rfl (fun v w h => .inr h) fun _ => rfl
    · exact step_skip [20] (by kernel_rfl) (j := 20) (t := 25) (b := true) rfl (by simp) rfl hl rfl (fun v w h => .inl h) fun _ => rfl
    · refine step_plain [20] (by kernel_rfl) rfl fun us w' hG hV => ?_
      have e20 : us 20 = .bool false := hV 20 (by simp)
      have v20 := (frame_at2 (us := us) hl (show (mbT[25]?).join = some 20 from rfl)).trans e20
      generalize frame mbT a0 us = fr at *
      exact val_ok (v := .bool false) (w' := w') (by go_simp) hG (Below.refl _ _) rfl
    · refine step_plain [27] (by kernel_rfl) rfl fun us w' hG hV => ?_
      have e27 : us 27 = .bool false := hV 27 (by simp)
      have v27 := (frame_at2 (us := us) hl (show (mbT[32]?).join = some 27 from rfl)).trans e27
      generalize frame mbT a0 us = fr at *
      exact val_ok (v := .bool false) (w' := w') (by go_simp) hG (Below.refl _ _) rfl
    · intro us w5 hG hV
      have e8 : us 28 = .bool false := hV 28 (by decide)
      subst ha0
      simp only [frame, mbT, fill]
      rw [e8]
      have HG3 := Lib.hid hG
      clear hV hl hG k1 k2 e8
      go_wp2_with fail
      go_ret
      exact ⟨ret_bool HV.out.symm, HB.out.trans (Below.mono HG3.out HB.out.size)⟩
  have Q2 := Lib.hid (show decide (ki ≤ 5) = true from decide_eq_true h2)
  cases b0
  · have HV := Lib.hid (show V = false by rw [HV0.out, decide_eq_true h1, decide_eq_true h2]; rfl)
    clear HV0 h1 h2
    go_enter Try.func14, Try.ntmps14
    go_upto_region 1 with fail
    rw [← hW]
    clear hW
    refine with_act fun a0 ha0 => ?_
    have hl : mcT.length = a0.tmps.size := by rw [ha0]; rfl
    have k1 : a0.tmps[1]?.getD undef = .bool six := by rw [ha0]; rfl
    have k2 : a0.tmps[2]?.getD undef = .pointer (some ⟨w.heap.size, 0, none⟩) := by rw [ha0]; rfl
    refine wp_region_vals (by kernel_rfl) mcT (by kernel_rfl) (by kernel_rfl) hl (fun i => if i = 28 then .bool false else undef) (by rw [ha0]; rfl) (Gr W) (mcV w.heap.size CP CK ki mt A n c six) (show Gr _ _ from (Below.refl _ _).drew) (mcV.keep _ _ _ _ _ _ _ _ _) ⟨?_, ?_, ?_, ?_, ?_, ?_, ?_, ?_, ?_, ?_, ?_, ?_, ?_, ?_, ?_, ?_, ?_, ?_, ?_, ?_, ?_, ?_, ?_, ?_, ?_, ?_, ?_, ?_, ?_, trivial⟩ ?_
    · refine step_plain [] (by kernel_rfl) rfl fun us w' hG hV => ?_
      have o2 := (frame_old2 (us := us) (a := a0) (show (mcT[2]?).join = none from rfl)).trans k2
      generalize frame mcT a0 us = fr at *
      exact val_ok (v := .pointer (some ⟨w.heap.size, 0, none⟩)) (w' := w') (by go_simp) hG (Below.refl _ _) rfl
    · refine step_plain [0] (by kernel_rfl) rfl fun us w' hG hV => ?_
      have e0 : us 0 = .pointer (some ⟨w.heap.size, 0, none⟩) := hV 0 (by simp)
      have v0 := (frame_at2 (us := us) hl (show (mcT[5]?).join = some 0 from rfl)).trans e0
      have hc := K0.out w' hG
      generalize frame mcT a0 us = fr at *
      exact val_ok (v := .int .i64 ki) (w' := w') (by go_simp) hG (Below.refl _ _) rfl
    · refine step_plain [1] (by kernel_rfl) rfl fun us w' hG hV => ?_
      have e1 : us 1 = .int .i64 ki := hV 1 (by simp)
      have v1 := (frame_at2 (us := us) hl (show (mcT[6]?).join = some 1 from rfl)).trans e1
      have q := Q1.out
      generalize frame mcT a0 us = fr at *
      exact val_ok (v := .bool true) (w' := w') (by go_simp) hG (Below.refl _ _) rfl
    · refine step_plain [2] (by kernel_rfl) rfl fun us w' hG hV => ?_
      have e2 : us 2 = .bool true := hV 2 (by simp)
      have v2 := (frame_at2 (us := us) hl (show (mcT[7]?).join = some 2 from rfl)).trans e2
      generalize frame mcT a0 us = fr at *
      exact val_ok (v := .bool true) (w' := w') (by go_simp) hG (Below.refl _ _) rfl
    · refine step_guard [3] (by kernel_rfl) (j := 3) (t := 8) (b := true) rfl (by simp) rfl hl rfl (fun v w h => h) fun us w' hG hV => ?_
      have o2 := (frame_old2 (us := us) (a := a0) (show (mcT[2]?).join = none from rfl)).trans k2
      generalize frame mcT a0 us = fr at *
      exact val_ok (v := .pointer (some ⟨w.heap.size, 0, none⟩)) (w' := w') (by go_simp) hG (Below.refl _ _) rfl
    · refine step_guard [3, 4] (by kernel_rfl) (j := 3) (t := 8) (b := true) rfl (by simp) rfl hl rfl (fun v w h => h) fun us w' hG hV => ?_
      have e4 : us 4 = .pointer (some ⟨w.heap.size, 0, none⟩) := hV 4 (by simp)
      have v4 := (frame_at2 (us := us) hl (show (mcT[9]?).join = some 4 from rfl)).trans e4
      have hc := K0.out w' hG
      generalize frame mcT a0 us = fr at *
      exact val_ok (v := .int .i64 ki) (w' := w') (by go_simp) hG (Below.refl _ _) rfl
    · refine step_guard [3, 5] (by kernel_rfl) (j := 3) (t := 8) (b := true) rfl (by simp) rfl hl rfl (fun v w h => h) fun us w' hG hV => ?_
      have e5 : us 5 = .int .i64 ki := hV 5 (by simp)
      have v5 := (frame_at2 (us := us) hl (show (mcT[10]?).join = some 5 from rfl)).trans e5
      have q := Q2.out
      generalize frame mcT a0 us = fr at *
      exact val_ok (v := .bool true) (w' := w') (by go_simp) hG (Below.refl _ _) rfl
    · refine step_plain [3, 6] (by kernel_rfl) rfl fun us w' hG hV => ?_
      have e3 : us 3 = .bool true := hV 3 (by simp)
      have v3 := (frame_at2 (us := us) hl (show (mcT[8]?).join = some 3 from rfl)).trans e3
      have e6 : us 6 = .bool true := hV 6 (by simp)
      have v6 := (frame_at2 (us := us) hl (show (mcT[11]?).join = some 6 from rfl)).trans e6
      generalize frame mcT a0 us = fr at *
      exact val_ok (v := .bool true) (w' := w') (by go_simp) hG (Below.refl _ _) rfl
    · refine step_plain [7] (by kernel_rfl) rfl fun us w' hG hV => ?_
      have e7 : us 7 = .bool true := hV 7 (by simp)
      have v7 := (frame_at2 (us := us) hl (show (mcT[12]?).join = some 7 from rfl)).trans e7
      generalize frame mcT a0 us = fr at *
      exact val_ok (v := .bool true) (w' := w') (by go_simp) hG (Below.refl _ _) rfl
    · refine step_guard [8] (by kernel_rfl) (j := 8) (t := 13) (b := true) rfl (by simp) rfl hl rfl (fun v w h => h) fun us w' hG hV => ?_
      have o2 := (frame_old2 (us := us) (a := a0) (show (mcT[2]?).join = none from rfl)).trans k2
      have hg1 := (KRX.out w' hG)
      generalize frame mcT a0 us = fr at *
      exact load_ok 26 2 rfl (w.heap.size) o2 _ _ (0, 0) _ hg1 Try.underlying26 rfl IP.out hG rfl
    · refine step_guard [8, 9] (by kernel_rfl) (j := 8) (t := 13) (b := true) rfl (by simp) rfl hl rfl (fun v w h => h) fun us w' hG hV => ?_
      have e9 : us 9 = .agg CP := hV 9 (by simp)
      have v9 := (frame_at2 (us := us) hl (show (mcT[14]?).join = some 9 from rfl)).trans e9
      generalize frame mcT a0 us = fr at *
      exact call_ok (f := 33) (args := #[.agg CP]) (by go_simp) ((KT.out w').mono fun e w'' h => ⟨_, h.1, hG.below h.2, h.2, rfl⟩)
    · refine step_guard [8] (by kernel_rfl) (j := 8) (t := 13) (b := true) rfl (by simp) rfl hl rfl (fun v w h => h) fun us w' hG hV => ?_
      have o2 := (frame_old2 (us := us) (a := a0) (show (mcT[2]?).join = none from rfl)).trans k2
      have hg1 := (KRX.out w' hG)
      generalize frame mcT a0 us = fr at *
      exact load_ok 26 2 rfl (w.heap.size) o2 _ _ (0, 0) _ hg1 Try.underlying26 rfl IP.out hG rfl
    · refine step_guard [8, 10, 11] (by kernel_rfl) (j := 8) (t := 13) (b := true) rfl (by simp) rfl hl rfl (fun v w h => h) fun us w' hG hV => ?_
      have e10 : us 10 = .agg CK := hV 10 (by simp)
      have v10 := (frame_at2 (us := us) hl (show (mcT[15]?).join = some 10 from rfl)).trans e10
      have e11 : us 11 = .agg CP := hV 11 (by simp)
      have v11 := (frame_at2 (us := us) hl (show (mcT[16]?).join = some 11 from rfl)).trans e11
      generalize frame mcT a0 us = fr at *
      exact call_ok (f := 16) (args := #[.agg CK, .agg CP]) (by go_simp) ((SM.out w' hG).mono fun e w'' h => ⟨_, h.1, hG.below h.2, h.2, rfl⟩)
    · refine step_plain [8, 12] (by kernel_rfl) rfl fun us w' hG hV => ?_
      have e8 : us 8 = .bool true := hV 8 (by simp)
      have v8 := (frame_at2 (us := us) hl (show (mcT[13]?).join = some 8 from rfl)).trans e8
      have e12 : us 12 = .bool false := hV 12 (by simp)
      have v12 := (frame_at2 (us := us) hl (show (mcT[17]?).join = some 12 from rfl)).trans e12
      generalize frame mcT a0 us = fr at *
      exact val_ok (v := .bool false) (w' := w') (by go_simp) hG (Below.refl _ _) rfl
    · refine step_plain [13] (by kernel_rfl) rfl fun us w' hG hV => ?_
      have e13 : us 13 = .bool false := hV 13 (by simp)
      have v13 := (frame_at2 (us := us) hl (show (mcT[18]?).join = some 13 from rfl)).trans e13
      generalize frame mcT a0 us = fr at *
      exact val_ok (v := .bool false) (w' := w') (by go_simp) hG (Below.refl _ _) rfl
    · exact step_skip [14] (by kernel_rfl) (j := 14) (t := 19) (b := true) rfl (by simp) rfl hl rfl (fun v w h => .inl h) fun _ => rfl
    · exact step_skip [14] (by kernel_rfl) (j := 14) (t := 19) (b := true) rfl (by simp) rfl hl rfl (fun v w h => .inl h) fun _ => rfl
    · exact step_skip [14] (by kernel_rfl) (j := 14) (t := 19) (b := true) rfl (by simp) rfl hl rfl (fun v w h => .inl h) fun _ => rfl
    · exact step_skip [14] (by kernel_rfl) (j := 14) (t := 19) (b := true) rfl (by simp) rfl hl rfl (fun v w h => .inl h) fun _ => rfl
    · refine step_plain [14] (by kernel_rfl) rfl fun us w' hG hV => ?_
      have e14 : us 14 = .bool false := hV 14 (by simp)
      have v14 := (frame_at2 (us := us) hl (show (mcT[19]?).join = some 14 from rfl)).trans e14
      generalize frame mcT a0 us = fr at *
      exact val_ok (v := .bool false) (w' := w') (by go_simp) hG (Below.refl _ _) rfl
    · refine step_plain [19] (by kernel_rfl) rfl fun us w' hG hV => ?_
      have e19 : us 19 = .bool false := hV 19 (by simp)
      have v19 := (frame_at2 (us := us) hl (show (mcT[24]?).join = some 19 from rfl)).trans e19
      generalize frame mcT a0 us = fr at *
      exact val_ok (v := .bool false) (w' := w') (by go_simp) hG (Below.refl _ _) rfl
    · exact step_skip [20] (by kernel_rfl) (j := 20) (t := 25) (b := true) rfl (by simp) rfl hl rfl (fun v w h => .inl h) fun _ => rfl
    · exact step_skip [20] (by kernel_rfl) (j := 20) (t := 25) (b := true) rfl (by simp) rfl hl rfl (fun v w h => .inl h) fun _ => rfl
    · exact step_skip [22] (by kernel_rfl) (j := 22) (t := 27) (b := false) rfl (by simp) rfl hl rfl (fun v w h => .inr h) fun _ => rfl
    · exact step_skip [22] (by kernel_rfl) (j := 22) (t := 27) (b := false) rfl (by simp) rfl hl rfl (fun v w h => .inr h) fun _ => rfl
    · exact step_skip [22] (by kernel_rfl) (j := 22) (t := 27) (b := false) rfl (by simp) rfl hl rfl (fun v w h => .inr h) fun _ => rfl
    · exact step_skip [20] (by kernel_rfl) (j := 20) (t := 25) (b := true) rfl (by simp) rfl hl rfl (fun v w h => .inl h) fun _ => rfl
    · refine step_plain [20] (by kernel_rfl) rfl fun us w' hG hV => ?_
      have e20 : us 20 = .bool false := hV 20 (by simp)
      have v20 := (frame_at2 (us := us) hl (show (mcT[25]?).join = some 20 from rfl)).trans e20
      generalize frame mcT a0 us = fr at *
      exact val_ok (v := .bool false) (w' := w') (by go_simp) hG (Below.refl _ _) rfl
    · refine step_plain [27] (by kernel_rfl) rfl fun us w' hG hV => ?_
      have e27 : us 27 = .bool false := hV 27 (by simp)
      have v27 := (frame_at2 (us := us) hl (show (mcT[32]?).join = some 27 from rfl)).trans e27
      generalize frame mcT a0 us = fr at *
      exact val_ok (v := .bool false) (w' := w') (by go_simp) hG (Below.refl _ _) rfl
    · intro us w5 hG hV
      have e8 : us 28 = .bool false := hV 28 (by decide)
      subst ha0
      simp only [frame, mcT, fill]
      rw [e8]
      have HG3 := Lib.hid hG
      clear hV hl hG k1 k2 e8
      go_wp2_with fail
      go_ret
      exact ⟨ret_bool HV.out.symm, HB.out.trans (Below.mono HG3.out HB.out.size)⟩
  by_cases h3 : n ≤ 1400
  rotate_left
  · have Q3 := Lib.hid (show decide ((n : Int) ≤ 1400) = false from decide_eq_false (by omega))
    have HV := Lib.hid (show V = false by rw [HV0.out, decide_eq_true h1, decide_eq_true h2, decide_eq_false h3]; rfl)
    clear HV0 h1 h2 h3
    go_enter Try.func14, Try.ntmps14
    go_upto_region 1 with fail
    rw [← hW]
    clear hW
    refine with_act fun a0 ha0 => ?_
    have hl : mdT.length = a0.tmps.size := by rw [ha0]; rfl
    have k1 : a0.tmps[1]?.getD undef = .bool six := by rw [ha0]; rfl
    have k2 : a0.tmps[2]?.getD undef = .pointer (some ⟨w.heap.size, 0, none⟩) := by rw [ha0]; rfl
    refine wp_region_vals (by kernel_rfl) mdT (by kernel_rfl) (by kernel_rfl) hl (fun i => if i = 28 then .bool false else undef) (by rw [ha0]; rfl) (Gr W) (mdV w.heap.size CP CK ki mt A n c six) (show Gr _ _ from (Below.refl _ _).drew) (mdV.keep _ _ _ _ _ _ _ _ _) ⟨?_, ?_, ?_, ?_, ?_, ?_, ?_, ?_, ?_, ?_, ?_, ?_, ?_, ?_, ?_, ?_, ?_, ?_, ?_, ?_, ?_, ?_, ?_, ?_, ?_, ?_, ?_, ?_, ?_, trivial⟩ ?_
    · refine step_plain [] (by kernel_rfl) rfl fun us w' hG hV => ?_
      have o2 := (frame_old2 (us := us) (a := a0) (show (mdT[2]?).join = none from rfl)).trans k2
      generalize frame mdT a0 us = fr at *
      exact val_ok (v := .pointer (some ⟨w.heap.size, 0, none⟩)) (w' := w') (by go_simp) hG (Below.refl _ _) rfl
    · refine step_plain [0] (by kernel_rfl) rfl fun us w' hG hV => ?_
      have e0 : us 0 = .pointer (some ⟨w.heap.size, 0, none⟩) := hV 0 (by simp)
      have v0 := (frame_at2 (us := us) hl (show (mdT[5]?).join = some 0 from rfl)).trans e0
      have hc := K0.out w' hG
      generalize frame mdT a0 us = fr at *
      exact val_ok (v := .int .i64 ki) (w' := w') (by go_simp) hG (Below.refl _ _) rfl
    · refine step_plain [1] (by kernel_rfl) rfl fun us w' hG hV => ?_
      have e1 : us 1 = .int .i64 ki := hV 1 (by simp)
      have v1 := (frame_at2 (us := us) hl (show (mdT[6]?).join = some 1 from rfl)).trans e1
      have q := Q1.out
      generalize frame mdT a0 us = fr at *
      exact val_ok (v := .bool true) (w' := w') (by go_simp) hG (Below.refl _ _) rfl
    · refine step_plain [2] (by kernel_rfl) rfl fun us w' hG hV => ?_
      have e2 : us 2 = .bool true := hV 2 (by simp)
      have v2 := (frame_at2 (us := us) hl (show (mdT[7]?).join = some 2 from rfl)).trans e2
      generalize frame mdT a0 us = fr at *
      exact val_ok (v := .bool true) (w' := w') (by go_simp) hG (Below.refl _ _) rfl
    · refine step_guard [3] (by kernel_rfl) (j := 3) (t := 8) (b := true) rfl (by simp) rfl hl rfl (fun v w h => h) fun us w' hG hV => ?_
      have o2 := (frame_old2 (us := us) (a := a0) (show (mdT[2]?).join = none from rfl)).trans k2
      generalize frame mdT a0 us = fr at *
      exact val_ok (v := .pointer (some ⟨w.heap.size, 0, none⟩)) (w' := w') (by go_simp) hG (Below.refl _ _) rfl
    · refine step_guard [3, 4] (by kernel_rfl) (j := 3) (t := 8) (b := true) rfl (by simp) rfl hl rfl (fun v w h => h) fun us w' hG hV => ?_
      have e4 : us 4 = .pointer (some ⟨w.heap.size, 0, none⟩) := hV 4 (by simp)
      have v4 := (frame_at2 (us := us) hl (show (mdT[9]?).join = some 4 from rfl)).trans e4
      have hc := K0.out w' hG
      generalize frame mdT a0 us = fr at *
      exact val_ok (v := .int .i64 ki) (w' := w') (by go_simp) hG (Below.refl _ _) rfl
    · refine step_guard [3, 5] (by kernel_rfl) (j := 3) (t := 8) (b := true) rfl (by simp) rfl hl rfl (fun v w h => h) fun us w' hG hV => ?_
      have e5 : us 5 = .int .i64 ki := hV 5 (by simp)
      have v5 := (frame_at2 (us := us) hl (show (mdT[10]?).join = some 5 from rfl)).trans e5
      have q := Q2.out
      generalize frame mdT a0 us = fr at *
      exact val_ok (v := .bool true) (w' := w') (by go_simp) hG (Below.refl _ _) rfl
    · refine step_plain [3, 6] (by kernel_rfl) rfl fun us w' hG hV => ?_
      have e3 : us 3 = .bool true := hV 3 (by simp)
      have v3 := (frame_at2 (us := us) hl (show (mdT[8]?).join = some 3 from rfl)).trans e3
      have e6 : us 6 = .bool true := hV 6 (by simp)
      have v6 := (frame_at2 (us := us) hl (show (mdT[11]?).join = some 6 from rfl)).trans e6
      generalize frame mdT a0 us = fr at *
      exact val_ok (v := .bool true) (w' := w') (by go_simp) hG (Below.refl _ _) rfl
    · refine step_plain [7] (by kernel_rfl) rfl fun us w' hG hV => ?_
      have e7 : us 7 = .bool true := hV 7 (by simp)
      have v7 := (frame_at2 (us := us) hl (show (mdT[12]?).join = some 7 from rfl)).trans e7
      generalize frame mdT a0 us = fr at *
      exact val_ok (v := .bool true) (w' := w') (by go_simp) hG (Below.refl _ _) rfl
    · refine step_guard [8] (by kernel_rfl) (j := 8) (t := 13) (b := true) rfl (by simp) rfl hl rfl (fun v w h => h) fun us w' hG hV => ?_
      have o2 := (frame_old2 (us := us) (a := a0) (show (mdT[2]?).join = none from rfl)).trans k2
      have hg1 := (KRX.out w' hG)
      generalize frame mdT a0 us = fr at *
      exact load_ok 26 2 rfl (w.heap.size) o2 _ _ (0, 0) _ hg1 Try.underlying26 rfl IP.out hG rfl
    · refine step_guard [8, 9] (by kernel_rfl) (j := 8) (t := 13) (b := true) rfl (by simp) rfl hl rfl (fun v w h => h) fun us w' hG hV => ?_
      have e9 : us 9 = .agg CP := hV 9 (by simp)
      have v9 := (frame_at2 (us := us) hl (show (mdT[14]?).join = some 9 from rfl)).trans e9
      generalize frame mdT a0 us = fr at *
      exact call_ok (f := 33) (args := #[.agg CP]) (by go_simp) ((KT.out w').mono fun e w'' h => ⟨_, h.1, hG.below h.2, h.2, rfl⟩)
    · refine step_guard [8] (by kernel_rfl) (j := 8) (t := 13) (b := true) rfl (by simp) rfl hl rfl (fun v w h => h) fun us w' hG hV => ?_
      have o2 := (frame_old2 (us := us) (a := a0) (show (mdT[2]?).join = none from rfl)).trans k2
      have hg1 := (KRX.out w' hG)
      generalize frame mdT a0 us = fr at *
      exact load_ok 26 2 rfl (w.heap.size) o2 _ _ (0, 0) _ hg1 Try.underlying26 rfl IP.out hG rfl
    · refine step_guard [8, 10, 11] (by kernel_rfl) (j := 8) (t := 13) (b := true) rfl (by simp) rfl hl rfl (fun v w h => h) fun us w' hG hV => ?_
      have e10 : us 10 = .agg CK := hV 10 (by simp)
      have v10 := (frame_at2 (us := us) hl (show (mdT[15]?).join = some 10 from rfl)).trans e10
      have e11 : us 11 = .agg CP := hV 11 (by simp)
      have v11 := (frame_at2 (us := us) hl (show (mdT[16]?).join = some 11 from rfl)).trans e11
      generalize frame mdT a0 us = fr at *
      exact call_ok (f := 16) (args := #[.agg CK, .agg CP]) (by go_simp) ((SM.out w' hG).mono fun e w'' h => ⟨_, h.1, hG.below h.2, h.2, rfl⟩)
    · refine step_plain [8, 12] (by kernel_rfl) rfl fun us w' hG hV => ?_
      have e8 : us 8 = .bool true := hV 8 (by simp)
      have v8 := (frame_at2 (us := us) hl (show (mdT[13]?).join = some 8 from rfl)).trans e8
      have e12 : us 12 = .bool true := hV 12 (by simp)
      have v12 := (frame_at2 (us := us) hl (show (mdT[17]?).join = some 12 from rfl)).trans e12
      generalize frame mdT a0 us = fr at *
      exact val_ok (v := .bool true) (w' := w') (by go_simp) hG (Below.refl _ _) rfl
    · refine step_plain [13] (by kernel_rfl) rfl fun us w' hG hV => ?_
      have e13 : us 13 = .bool true := hV 13 (by simp)
      have v13 := (frame_at2 (us := us) hl (show (mdT[18]?).join = some 13 from rfl)).trans e13
      generalize frame mdT a0 us = fr at *
      exact val_ok (v := .bool true) (w' := w') (by go_simp) hG (Below.refl _ _) rfl
    · refine step_guard [14] (by kernel_rfl) (j := 14) (t := 19) (b := true) rfl (by simp) rfl hl rfl (fun v w h => h) fun us w' hG hV => ?_
      have o2 := (frame_old2 (us := us) (a := a0) (show (mdT[2]?).join = none from rfl)).trans k2
      generalize frame mdT a0 us = fr at *
      exact val_ok (v := .pointer (some ⟨w.heap.size, 5, none⟩)) (w' := w') (by go_simp) hG (Below.refl _ _) rfl
    · refine step_guard [14, 15] (by kernel_rfl) (j := 14) (t := 19) (b := true) rfl (by simp) rfl hl rfl (fun v w h => h) fun us w' hG hV => ?_
      have e15 : us 15 = .pointer (some ⟨w.heap.size, 5, none⟩) := hV 15 (by simp)
      have v15 := (frame_at2 (us := us) hl (show (mdT[20]?).join = some 15 from rfl)).trans e15
      have hc := K5.out w' hG
      generalize frame mdT a0 us = fr at *
      exact val_ok (v := .slice A n c) (w' := w') (by go_simp) hG (Below.refl _ _) rfl
    · refine step_guard [14, 16] (by kernel_rfl) (j := 14) (t := 19) (b := true) rfl (by simp) rfl hl rfl (fun v w h => h) fun us w' hG hV => ?_
      have e16 : us 16 = .slice A n c := hV 16 (by simp)
      have v16 := (frame_at2 (us := us) hl (show (mdT[21]?).join = some 16 from rfl)).trans e16
      generalize frame mdT a0 us = fr at *
      exact val_ok (v := .int .i64 n) (w' := w') (by go_simp) hG (Below.refl _ _) rfl
    · refine step_guard [14, 17] (by kernel_rfl) (j := 14) (t := 19) (b := true) rfl (by simp) rfl hl rfl (fun v w h => h) fun us w' hG hV => ?_
      have e17 : us 17 = .int .i64 n := hV 17 (by simp)
      have v17 := (frame_at2 (us := us) hl (show (mdT[22]?).join = some 17 from rfl)).trans e17
      have q := Q3.out
      generalize frame mdT a0 us = fr at *
      exact val_ok (v := .bool false) (w' := w') (by go_simp) hG (Below.refl _ _) rfl
    · refine step_plain [14, 18] (by kernel_rfl) rfl fun us w' hG hV => ?_
      have e14 : us 14 = .bool true := hV 14 (by simp)
      have v14 := (frame_at2 (us := us) hl (show (mdT[19]?).join = some 14 from rfl)).trans e14
      have e18 : us 18 = .bool false := hV 18 (by simp)
      have v18 := (frame_at2 (us := us) hl (show (mdT[23]?).join = some 18 from rfl)).trans e18
      generalize frame mdT a0 us = fr at *
      exact val_ok (v := .bool false) (w' := w') (by go_simp) hG (Below.refl _ _) rfl
    · refine step_plain [19] (by kernel_rfl) rfl fun us w' hG hV => ?_
      have e19 : us 19 = .bool false := hV 19 (by simp)
      have v19 := (frame_at2 (us := us) hl (show (mdT[24]?).join = some 19 from rfl)).trans e19
      generalize frame mdT a0 us = fr at *
      exact val_ok (v := .bool false) (w' := w') (by go_simp) hG (Below.refl _ _) rfl
    · exact step_skip [20] (by kernel_rfl) (j := 20) (t := 25) (b := true) rfl (by simp) rfl hl rfl (fun v w h => .inl h) fun _ => rfl
    · exact step_skip [20] (by kernel_rfl) (j := 20) (t := 25) (b := true) rfl (by simp) rfl hl rfl (fun v w h => .inl h) fun _ => rfl
    · exact step_skip [22] (by kernel_rfl) (j := 22) (t := 27) (b := false) rfl (by simp) rfl hl rfl (fun v w h => .inr h) fun _ => rfl
    · exact step_skip [22] (by kernel_rfl) (j := 22) (t := 27) (b := false) rfl (by simp) rfl hl rfl (fun v w h => .inr h) fun _ => rfl
    · exact step_skip [22] (by kernel_rfl) (j := 22) (t := 27) (b := false) rfl (by simp) rfl hl rfl (fun v w h => .inr h) fun _ => rfl
    · exact step_skip [20] (by kernel_rfl) (j := 20) (t := 25) (b := true) rfl (by simp) rfl hl rfl (fun v w h => .inl h) fun _ => rfl
    · refine step_plain [20] (by kernel_rfl) rfl fun us w' hG hV => ?_
      have e20 : us 20 = .bool false := hV 20 (by simp)
      have v20 := (frame_at2 (us := us) hl (show (mdT[25]?).join = some 20 from rfl)).trans e20
      generalize frame mdT a0 us = fr at *
      exact val_ok (v := .bool false) (w' := w') (by go_simp) hG (Below.refl _ _) rfl
    · refine step_plain [27] (by kernel_rfl) rfl fun us w' hG hV => ?_
      have e27 : us 27 = .bool false := hV 27 (by simp)
      have v27 := (frame_at2 (us := us) hl (show (mdT[32]?).join = some 27 from rfl)).trans e27
      generalize frame mdT a0 us = fr at *
      exact val_ok (v := .bool false) (w' := w') (by go_simp) hG (Below.refl _ _) rfl
    · intro us w5 hG hV
      have e8 : us 28 = .bool false := hV 28 (by decide)
      subst ha0
      simp only [frame, mdT, fill]
      rw [e8]
      have HG3 := Lib.hid hG
      clear hV hl hG k1 k2 e8
      go_wp2_with fail
      go_ret
      exact ⟨ret_bool HV.out.symm, HB.out.trans (Below.mono HG3.out HB.out.size)⟩
  have Q3 := Lib.hid (show decide ((n : Int) ≤ 1400) = true from decide_eq_true (by omega))
  cases six
  rotate_left
  · have HV := Lib.hid (show V = true by rw [HV0.out, decide_eq_true h1, decide_eq_true h2, decide_eq_true h3]; rfl)
    clear HV0 h1 h2 h3
    go_enter Try.func14, Try.ntmps14
    go_upto_region 1 with fail
    rw [← hW]
    clear hW
    refine with_act fun a0 ha0 => ?_
    have hl : meT.length = a0.tmps.size := by rw [ha0]; rfl
    have k1 : a0.tmps[1]?.getD undef = .bool true := by rw [ha0]; rfl
    have k2 : a0.tmps[2]?.getD undef = .pointer (some ⟨w.heap.size, 0, none⟩) := by rw [ha0]; rfl
    refine wp_region_vals (by kernel_rfl) meT (by kernel_rfl) (by kernel_rfl) hl (fun i => if i = 28 then .bool false else undef) (by rw [ha0]; rfl) (Gr W) (meV w.heap.size CP CK ki mt A n c true) (show Gr _ _ from (Below.refl _ _).drew) (meV.keep _ _ _ _ _ _ _ _ _) ⟨?_, ?_, ?_, ?_, ?_, ?_, ?_, ?_, ?_, ?_, ?_, ?_, ?_, ?_, ?_, ?_, ?_, ?_, ?_, ?_, ?_, ?_, ?_, ?_, ?_, ?_, ?_, ?_, ?_, trivial⟩ ?_
    · refine step_plain [] (by kernel_rfl) rfl fun us w' hG hV => ?_
      have o2 := (frame_old2 (us := us) (a := a0) (show (meT[2]?).join = none from rfl)).trans k2
      generalize frame meT a0 us = fr at *
      exact val_ok (v := .pointer (some ⟨w.heap.size, 0, none⟩)) (w' := w') (by go_simp) hG (Below.refl _ _) rfl
    · refine step_plain [0] (by kernel_rfl) rfl fun us w' hG hV => ?_
      have e0 : us 0 = .pointer (some ⟨w.heap.size, 0, none⟩) := hV 0 (by simp)
      have v0 := (frame_at2 (us := us) hl (show (meT[5]?).join = some 0 from rfl)).trans e0
      have hc := K0.out w' hG
      generalize frame meT a0 us = fr at *
      exact val_ok (v := .int .i64 ki) (w' := w') (by go_simp) hG (Below.refl _ _) rfl
    · refine step_plain [1] (by kernel_rfl) rfl fun us w' hG hV => ?_
      have e1 : us 1 = .int .i64 ki := hV 1 (by simp)
      have v1 := (frame_at2 (us := us) hl (show (meT[6]?).join = some 1 from rfl)).trans e1
      have q := Q1.out
      generalize frame meT a0 us = fr at *
      exact val_ok (v := .bool true) (w' := w') (by go_simp) hG (Below.refl _ _) rfl
    · refine step_plain [2] (by kernel_rfl) rfl fun us w' hG hV => ?_
      have e2 : us 2 = .bool true := hV 2 (by simp)
      have v2 := (frame_at2 (us := us) hl (show (meT[7]?).join = some 2 from rfl)).trans e2
      generalize frame meT a0 us = fr at *
      exact val_ok (v := .bool true) (w' := w') (by go_simp) hG (Below.refl _ _) rfl
    · refine step_guard [3] (by kernel_rfl) (j := 3) (t := 8) (b := true) rfl (by simp) rfl hl rfl (fun v w h => h) fun us w' hG hV => ?_
      have o2 := (frame_old2 (us := us) (a := a0) (show (meT[2]?).join = none from rfl)).trans k2
      generalize frame meT a0 us = fr at *
      exact val_ok (v := .pointer (some ⟨w.heap.size, 0, none⟩)) (w' := w') (by go_simp) hG (Below.refl _ _) rfl
    · refine step_guard [3, 4] (by kernel_rfl) (j := 3) (t := 8) (b := true) rfl (by simp) rfl hl rfl (fun v w h => h) fun us w' hG hV => ?_
      have e4 : us 4 = .pointer (some ⟨w.heap.size, 0, none⟩) := hV 4 (by simp)
      have v4 := (frame_at2 (us := us) hl (show (meT[9]?).join = some 4 from rfl)).trans e4
      have hc := K0.out w' hG
      generalize frame meT a0 us = fr at *
      exact val_ok (v := .int .i64 ki) (w' := w') (by go_simp) hG (Below.refl _ _) rfl
    · refine step_guard [3, 5] (by kernel_rfl) (j := 3) (t := 8) (b := true) rfl (by simp) rfl hl rfl (fun v w h => h) fun us w' hG hV => ?_
      have e5 : us 5 = .int .i64 ki := hV 5 (by simp)
      have v5 := (frame_at2 (us := us) hl (show (meT[10]?).join = some 5 from rfl)).trans e5
      have q := Q2.out
      generalize frame meT a0 us = fr at *
      exact val_ok (v := .bool true) (w' := w') (by go_simp) hG (Below.refl _ _) rfl
    · refine step_plain [3, 6] (by kernel_rfl) rfl fun us w' hG hV => ?_
      have e3 : us 3 = .bool true := hV 3 (by simp)
      have v3 := (frame_at2 (us := us) hl (show (meT[8]?).join = some 3 from rfl)).trans e3
      have e6 : us 6 = .bool true := hV 6 (by simp)
      have v6 := (frame_at2 (us := us) hl (show (meT[11]?).join = some 6 from rfl)).trans e6
      generalize frame meT a0 us = fr at *
      exact val_ok (v := .bool true) (w' := w') (by go_simp) hG (Below.refl _ _) rfl
    · refine step_plain [7] (by kernel_rfl) rfl fun us w' hG hV => ?_
      have e7 : us 7 = .bool true := hV 7 (by simp)
      have v7 := (frame_at2 (us := us) hl (show (meT[12]?).join = some 7 from rfl)).trans e7
      generalize frame meT a0 us = fr at *
      exact val_ok (v := .bool true) (w' := w') (by go_simp) hG (Below.refl _ _) rfl
    · refine step_guard [8] (by kernel_rfl) (j := 8) (t := 13) (b := true) rfl (by simp) rfl hl rfl (fun v w h => h) fun us w' hG hV => ?_
      have o2 := (frame_old2 (us := us) (a := a0) (show (meT[2]?).join = none from rfl)).trans k2
      have hg1 := (KRX.out w' hG)
      generalize frame meT a0 us = fr at *
      exact load_ok 26 2 rfl (w.heap.size) o2 _ _ (0, 0) _ hg1 Try.underlying26 rfl IP.out hG rfl
    · refine step_guard [8, 9] (by kernel_rfl) (j := 8) (t := 13) (b := true) rfl (by simp) rfl hl rfl (fun v w h => h) fun us w' hG hV => ?_
      have e9 : us 9 = .agg CP := hV 9 (by simp)
      have v9 := (frame_at2 (us := us) hl (show (meT[14]?).join = some 9 from rfl)).trans e9
      generalize frame meT a0 us = fr at *
      exact call_ok (f := 33) (args := #[.agg CP]) (by go_simp) ((KT.out w').mono fun e w'' h => ⟨_, h.1, hG.below h.2, h.2, rfl⟩)
    · refine step_guard [8] (by kernel_rfl) (j := 8) (t := 13) (b := true) rfl (by simp) rfl hl rfl (fun v w h => h) fun us w' hG hV => ?_
      have o2 := (frame_old2 (us := us) (a := a0) (show (meT[2]?).join = none from rfl)).trans k2
      have hg1 := (KRX.out w' hG)
      generalize frame meT a0 us = fr at *
      exact load_ok 26 2 rfl (w.heap.size) o2 _ _ (0, 0) _ hg1 Try.underlying26 rfl IP.out hG rfl
    · refine step_guard [8, 10, 11] (by kernel_rfl) (j := 8) (t := 13) (b := true) rfl (by simp) rfl hl rfl (fun v w h => h) fun us w' hG hV => ?_
      have e10 : us 10 = .agg CK := hV 10 (by simp)
      have v10 := (frame_at2 (us := us) hl (show (meT[15]?).join = some 10 from rfl)).trans e10
      have e11 : us 11 = .agg CP := hV 11 (by simp)
      have v11 := (frame_at2 (us := us) hl (show (meT[16]?).join = some 11 from rfl)).trans e11
      generalize frame meT a0 us = fr at *
      exact call_ok (f := 16) (args := #[.agg CK, .agg CP]) (by go_simp) ((SM.out w' hG).mono fun e w'' h => ⟨_, h.1, hG.below h.2, h.2, rfl⟩)
    · refine step_plain [8, 12] (by kernel_rfl) rfl fun us w' hG hV => ?_
      have e8 : us 8 = .bool true := hV 8 (by simp)
      have v8 := (frame_at2 (us := us) hl (show (meT[13]?).join = some 8 from rfl)).trans e8
      have e12 : us 12 = .bool true := hV 12 (by simp)
      have v12 := (frame_at2 (us := us) hl (show (meT[17]?).join = some 12 from rfl)).trans e12
      generalize frame meT a0 us = fr at *
      exact val_ok (v := .bool true) (w' := w') (by go_simp) hG (Below.refl _ _) rfl
    · refine step_plain [13] (by kernel_rfl) rfl fun us w' hG hV => ?_
      have e13 : us 13 = .bool true := hV 13 (by simp)
      have v13 := (frame_at2 (us := us) hl (show (meT[18]?).join = some 13 from rfl)).trans e13
      generalize frame meT a0 us = fr at *
      exact val_ok (v := .bool true) (w' := w') (by go_simp) hG (Below.refl _ _) rfl
    · refine step_guard [14] (by kernel_rfl) (j := 14) (t := 19) (b := true) rfl (by simp) rfl hl rfl (fun v w h => h) fun us w' hG hV => ?_
      have o2 := (frame_old2 (us := us) (a := a0) (show (meT[2]?).join = none from rfl)).trans k2
      generalize frame meT a0 us = fr at *
      exact val_ok (v := .pointer (some ⟨w.heap.size, 5, none⟩)) (w' := w') (by go_simp) hG (Below.refl _ _) rfl
    · refine step_guard [14, 15] (by kernel_rfl) (j := 14) (t := 19) (b := true) rfl (by simp) rfl hl rfl (fun v w h => h) fun us w' hG hV => ?_
      have e15 : us 15 = .pointer (some ⟨w.heap.size, 5, none⟩) := hV 15 (by simp)
      have v15 := (frame_at2 (us := us) hl (show (meT[20]?).join = some 15 from rfl)).trans e15
      have hc := K5.out w' hG
      generalize frame meT a0 us = fr at *
      exact val_ok (v := .slice A n c) (w' := w') (by go_simp) hG (Below.refl _ _) rfl
    · refine step_guard [14, 16] (by kernel_rfl) (j := 14) (t := 19) (b := true) rfl (by simp) rfl hl rfl (fun v w h => h) fun us w' hG hV => ?_
      have e16 : us 16 = .slice A n c := hV 16 (by simp)
      have v16 := (frame_at2 (us := us) hl (show (meT[21]?).join = some 16 from rfl)).trans e16
      generalize frame meT a0 us = fr at *
      exact val_ok (v := .int .i64 n) (w' := w') (by go_simp) hG (Below.refl _ _) rfl
    · refine step_guard [14, 17] (by kernel_rfl) (j := 14) (t := 19) (b := true) rfl (by simp) rfl hl rfl (fun v w h => h) fun us w' hG hV => ?_
      have e17 : us 17 = .int .i64 n := hV 17 (by simp)
      have v17 := (frame_at2 (us := us) hl (show (meT[22]?).join = some 17 from rfl)).trans e17
      have q := Q3.out
      generalize frame meT a0 us = fr at *
      exact val_ok (v := .bool true) (w' := w') (by go_simp) hG (Below.refl _ _) rfl
    · refine step_plain [14, 18] (by kernel_rfl) rfl fun us w' hG hV => ?_
      have e14 : us 14 = .bool true := hV 14 (by simp)
      have v14 := (frame_at2 (us := us) hl (show (meT[19]?).join = some 14 from rfl)).trans e14
      have e18 : us 18 = .bool true := hV 18 (by simp)
      have v18 := (frame_at2 (us := us) hl (show (meT[23]?).join = some 18 from rfl)).trans e18
      generalize frame meT a0 us = fr at *
      exact val_ok (v := .bool true) (w' := w') (by go_simp) hG (Below.refl _ _) rfl
    · refine step_plain [19] (by kernel_rfl) rfl fun us w' hG hV => ?_
      have e19 : us 19 = .bool true := hV 19 (by simp)
      have v19 := (frame_at2 (us := us) hl (show (meT[24]?).join = some 19 from rfl)).trans e19
      generalize frame meT a0 us = fr at *
      exact val_ok (v := .bool true) (w' := w') (by go_simp) hG (Below.refl _ _) rfl
    · refine step_guard [20] (by kernel_rfl) (j := 20) (t := 25) (b := true) rfl (by simp) rfl hl rfl (fun v w h => h) fun us w' hG hV => ?_
      have o1 := (frame_old2 (us := us) (a := a0) (show (meT[1]?).join = none from rfl)).trans k1
      generalize frame meT a0 us = fr at *
      exact val_ok (v := .bool true) (w' := w') (by go_simp) hG (Below.refl _ _) rfl
    · refine step_guard [20, 21] (by kernel_rfl) (j := 20) (t := 25) (b := true) rfl (by simp) rfl hl rfl (fun v w h => h) fun us w' hG hV => ?_
      have e21 : us 21 = .bool true := hV 21 (by simp)
      have v21 := (frame_at2 (us := us) hl (show (meT[26]?).join = some 21 from rfl)).trans e21
      generalize frame meT a0 us = fr at *
      exact val_ok (v := .bool true) (w' := w') (by go_simp) hG (Below.refl _ _) rfl
    · exact step_skip [22] (by kernel_rfl) (j := 22) (t := 27) (b := false) rfl (by simp) rfl hl rfl (fun v w h => .inl h) fun _ => rfl
    · exact step_skip [22] (by kernel_rfl) (j := 22) (t := 27) (b := false) rfl (by simp) rfl hl rfl (fun v w h => .inl h) fun _ => rfl
    · exact step_skip [22] (by kernel_rfl) (j := 22) (t := 27) (b := false) rfl (by simp) rfl hl rfl (fun v w h => .inl h) fun _ => rfl
    · refine step_guard [20, 22] (by kernel_rfl) (j := 20) (t := 25) (b := true) rfl (by simp) rfl hl rfl (fun v w h => h) fun us w' hG hV => ?_
      have e22 : us 22 = .bool true := hV 22 (by simp)
      have v22 := (frame_at2 (us := us) hl (show (meT[27]?).join = some 22 from rfl)).trans e22
      generalize frame meT a0 us = fr at *
      exact val_ok (v := .bool true) (w' := w') (by go_simp) hG (Below.refl _ _) rfl
    · refine step_plain [20, 26] (by kernel_rfl) rfl fun us w' hG hV => ?_
      have e20 : us 20 = .bool true := hV 20 (by simp)
      have v20 := (frame_at2 (us := us) hl (show (meT[25]?).join = some 20 from rfl)).trans e20
      have e26 : us 26 = .bool true := hV 26 (by simp)
      have v26 := (frame_at2 (us := us) hl (show (meT[31]?).join = some 26 from rfl)).trans e26
      generalize frame meT a0 us = fr at *
      exact val_ok (v := .bool true) (w' := w') (by go_simp) hG (Below.refl _ _) rfl
    · refine step_plain [27] (by kernel_rfl) rfl fun us w' hG hV => ?_
      have e27 : us 27 = .bool true := hV 27 (by simp)
      have v27 := (frame_at2 (us := us) hl (show (meT[32]?).join = some 27 from rfl)).trans e27
      generalize frame meT a0 us = fr at *
      exact val_ok (v := .bool true) (w' := w') (by go_simp) hG (Below.refl _ _) rfl
    · intro us w5 hG hV
      have e8 : us 28 = .bool true := hV 28 (by decide)
      subst ha0
      simp only [frame, meT, fill]
      rw [e8]
      have HG3 := Lib.hid hG
      clear hV hl hG k1 k2 e8
      go_wp2_with fail
      go_ret
      exact ⟨ret_bool HV.out.symm, HB.out.trans (Below.mono HG3.out HB.out.size)⟩
  by_cases h4 : mt ≤ 65535
  rotate_left
  · have Q4 := Lib.hid (show decide (mt ≤ 65535) = false from decide_eq_false h4)
    have HV := Lib.hid (show V = false by rw [HV0.out, decide_eq_true h1, decide_eq_true h2, decide_eq_true h3, decide_eq_false h4]; rfl)
    clear HV0 h1 h2 h3 h4
    go_enter Try.func14, Try.ntmps14
    go_upto_region 1 with fail
    rw [← hW]
    clear hW
    refine with_act fun a0 ha0 => ?_
    have hl : mfT.length = a0.tmps.size := by rw [ha0]; rfl
    have k1 : a0.tmps[1]?.getD undef = .bool false := by rw [ha0]; rfl
    have k2 : a0.tmps[2]?.getD undef = .pointer (some ⟨w.heap.size, 0, none⟩) := by rw [ha0]; rfl
    refine wp_region_vals (by kernel_rfl) mfT (by kernel_rfl) (by kernel_rfl) hl (fun i => if i = 28 then .bool false else undef) (by rw [ha0]; rfl) (Gr W) (mfV w.heap.size CP CK ki mt A n c false) (show Gr _ _ from (Below.refl _ _).drew) (mfV.keep _ _ _ _ _ _ _ _ _) ⟨?_, ?_, ?_, ?_, ?_, ?_, ?_, ?_, ?_, ?_, ?_, ?_, ?_, ?_, ?_, ?_, ?_, ?_, ?_, ?_, ?_, ?_, ?_, ?_, ?_, ?_, ?_, ?_, ?_, trivial⟩ ?_
    · refine step_plain [] (by kernel_rfl) rfl fun us w' hG hV => ?_
      have o2 := (frame_old2 (us := us) (a := a0) (show (mfT[2]?).join = none from rfl)).trans k2
      generalize frame mfT a0 us = fr at *
      exact val_ok (v := .pointer (some ⟨w.heap.size, 0, none⟩)) (w' := w') (by go_simp) hG (Below.refl _ _) rfl
    · refine step_plain [0] (by kernel_rfl) rfl fun us w' hG hV => ?_
      have e0 : us 0 = .pointer (some ⟨w.heap.size, 0, none⟩) := hV 0 (by simp)
      have v0 := (frame_at2 (us := us) hl (show (mfT[5]?).join = some 0 from rfl)).trans e0
      have hc := K0.out w' hG
      generalize frame mfT a0 us = fr at *
      exact val_ok (v := .int .i64 ki) (w' := w') (by go_simp) hG (Below.refl _ _) rfl
    · refine step_plain [1] (by kernel_rfl) rfl fun us w' hG hV => ?_
      have e1 : us 1 = .int .i64 ki := hV 1 (by simp)
      have v1 := (frame_at2 (us := us) hl (show (mfT[6]?).join = some 1 from rfl)).trans e1
      have q := Q1.out
      generalize frame mfT a0 us = fr at *
      exact val_ok (v := .bool true) (w' := w') (by go_simp) hG (Below.refl _ _) rfl
    · refine step_plain [2] (by kernel_rfl) rfl fun us w' hG hV => ?_
      have e2 : us 2 = .bool true := hV 2 (by simp)
      have v2 := (frame_at2 (us := us) hl (show (mfT[7]?).join = some 2 from rfl)).trans e2
      generalize frame mfT a0 us = fr at *
      exact val_ok (v := .bool true) (w' := w') (by go_simp) hG (Below.refl _ _) rfl
    · refine step_guard [3] (by kernel_rfl) (j := 3) (t := 8) (b := true) rfl (by simp) rfl hl rfl (fun v w h => h) fun us w' hG hV => ?_
      have o2 := (frame_old2 (us := us) (a := a0) (show (mfT[2]?).join = none from rfl)).trans k2
      generalize frame mfT a0 us = fr at *
      exact val_ok (v := .pointer (some ⟨w.heap.size, 0, none⟩)) (w' := w') (by go_simp) hG (Below.refl _ _) rfl
    · refine step_guard [3, 4] (by kernel_rfl) (j := 3) (t := 8) (b := true) rfl (by simp) rfl hl rfl (fun v w h => h) fun us w' hG hV => ?_
      have e4 : us 4 = .pointer (some ⟨w.heap.size, 0, none⟩) := hV 4 (by simp)
      have v4 := (frame_at2 (us := us) hl (show (mfT[9]?).join = some 4 from rfl)).trans e4
      have hc := K0.out w' hG
      generalize frame mfT a0 us = fr at *
      exact val_ok (v := .int .i64 ki) (w' := w') (by go_simp) hG (Below.refl _ _) rfl
    · refine step_guard [3, 5] (by kernel_rfl) (j := 3) (t := 8) (b := true) rfl (by simp) rfl hl rfl (fun v w h => h) fun us w' hG hV => ?_
      have e5 : us 5 = .int .i64 ki := hV 5 (by simp)
      have v5 := (frame_at2 (us := us) hl (show (mfT[10]?).join = some 5 from rfl)).trans e5
      have q := Q2.out
      generalize frame mfT a0 us = fr at *
      exact val_ok (v := .bool true) (w' := w') (by go_simp) hG (Below.refl _ _) rfl
    · refine step_plain [3, 6] (by kernel_rfl) rfl fun us w' hG hV => ?_
      have e3 : us 3 = .bool true := hV 3 (by simp)
      have v3 := (frame_at2 (us := us) hl (show (mfT[8]?).join = some 3 from rfl)).trans e3
      have e6 : us 6 = .bool true := hV 6 (by simp)
      have v6 := (frame_at2 (us := us) hl (show (mfT[11]?).join = some 6 from rfl)).trans e6
      generalize frame mfT a0 us = fr at *
      exact val_ok (v := .bool true) (w' := w') (by go_simp) hG (Below.refl _ _) rfl
    · refine step_plain [7] (by kernel_rfl) rfl fun us w' hG hV => ?_
      have e7 : us 7 = .bool true := hV 7 (by simp)
      have v7 := (frame_at2 (us := us) hl (show (mfT[12]?).join = some 7 from rfl)).trans e7
      generalize frame mfT a0 us = fr at *
      exact val_ok (v := .bool true) (w' := w') (by go_simp) hG (Below.refl _ _) rfl
    · refine step_guard [8] (by kernel_rfl) (j := 8) (t := 13) (b := true) rfl (by simp) rfl hl rfl (fun v w h => h) fun us w' hG hV => ?_
      have o2 := (frame_old2 (us := us) (a := a0) (show (mfT[2]?).join = none from rfl)).trans k2
      have hg1 := (KRX.out w' hG)
      generalize frame mfT a0 us = fr at *
      exact load_ok 26 2 rfl (w.heap.size) o2 _ _ (0, 0) _ hg1 Try.underlying26 rfl IP.out hG rfl
    · refine step_guard [8, 9] (by kernel_rfl) (j := 8) (t := 13) (b := true) rfl (by simp) rfl hl rfl (fun v w h => h) fun us w' hG hV => ?_
      have e9 : us 9 = .agg CP := hV 9 (by simp)
      have v9 := (frame_at2 (us := us) hl (show (mfT[14]?).join = some 9 from rfl)).trans e9
      generalize frame mfT a0 us = fr at *
      exact call_ok (f := 33) (args := #[.agg CP]) (by go_simp) ((KT.out w').mono fun e w'' h => ⟨_, h.1, hG.below h.2, h.2, rfl⟩)
    · refine step_guard [8] (by kernel_rfl) (j := 8) (t := 13) (b := true) rfl (by simp) rfl hl rfl (fun v w h => h) fun us w' hG hV => ?_
      have o2 := (frame_old2 (us := us) (a := a0) (show (mfT[2]?).join = none from rfl)).trans k2
      have hg1 := (KRX.out w' hG)
      generalize frame mfT a0 us = fr at *
      exact load_ok 26 2 rfl (w.heap.size) o2 _ _ (0, 0) _ hg1 Try.underlying26 rfl IP.out hG rfl
    · refine step_guard [8, 10, 11] (by kernel_rfl) (j := 8) (t := 13) (b := true) rfl (by simp) rfl hl rfl (fun v w h => h) fun us w' hG hV => ?_
      have e10 : us 10 = .agg CK := hV 10 (by simp)
      have v10 := (frame_at2 (us := us) hl (show (mfT[15]?).join = some 10 from rfl)).trans e10
      have e11 : us 11 = .agg CP := hV 11 (by simp)
      have v11 := (frame_at2 (us := us) hl (show (mfT[16]?).join = some 11 from rfl)).trans e11
      generalize frame mfT a0 us = fr at *
      exact call_ok (f := 16) (args := #[.agg CK, .agg CP]) (by go_simp) ((SM.out w' hG).mono fun e w'' h => ⟨_, h.1, hG.below h.2, h.2, rfl⟩)
    · refine step_plain [8, 12] (by kernel_rfl) rfl fun us w' hG hV => ?_
      have e8 : us 8 = .bool true := hV 8 (by simp)
      have v8 := (frame_at2 (us := us) hl (show (mfT[13]?).join = some 8 from rfl)).trans e8
      have e12 : us 12 = .bool true := hV 12 (by simp)
      have v12 := (frame_at2 (us := us) hl (show (mfT[17]?).join = some 12 from rfl)).trans e12
      generalize frame mfT a0 us = fr at *
      exact val_ok (v := .bool true) (w' := w') (by go_simp) hG (Below.refl _ _) rfl
    · refine step_plain [13] (by kernel_rfl) rfl fun us w' hG hV => ?_
      have e13 : us 13 = .bool true := hV 13 (by simp)
      have v13 := (frame_at2 (us := us) hl (show (mfT[18]?).join = some 13 from rfl)).trans e13
      generalize frame mfT a0 us = fr at *
      exact val_ok (v := .bool true) (w' := w') (by go_simp) hG (Below.refl _ _) rfl
    · refine step_guard [14] (by kernel_rfl) (j := 14) (t := 19) (b := true) rfl (by simp) rfl hl rfl (fun v w h => h) fun us w' hG hV => ?_
      have o2 := (frame_old2 (us := us) (a := a0) (show (mfT[2]?).join = none from rfl)).trans k2
      generalize frame mfT a0 us = fr at *
      exact val_ok (v := .pointer (some ⟨w.heap.size, 5, none⟩)) (w' := w') (by go_simp) hG (Below.refl _ _) rfl
    · refine step_guard [14, 15] (by kernel_rfl) (j := 14) (t := 19) (b := true) rfl (by simp) rfl hl rfl (fun v w h => h) fun us w' hG hV => ?_
      have e15 : us 15 = .pointer (some ⟨w.heap.size, 5, none⟩) := hV 15 (by simp)
      have v15 := (frame_at2 (us := us) hl (show (mfT[20]?).join = some 15 from rfl)).trans e15
      have hc := K5.out w' hG
      generalize frame mfT a0 us = fr at *
      exact val_ok (v := .slice A n c) (w' := w') (by go_simp) hG (Below.refl _ _) rfl
    · refine step_guard [14, 16] (by kernel_rfl) (j := 14) (t := 19) (b := true) rfl (by simp) rfl hl rfl (fun v w h => h) fun us w' hG hV => ?_
      have e16 : us 16 = .slice A n c := hV 16 (by simp)
      have v16 := (frame_at2 (us := us) hl (show (mfT[21]?).join = some 16 from rfl)).trans e16
      generalize frame mfT a0 us = fr at *
      exact val_ok (v := .int .i64 n) (w' := w') (by go_simp) hG (Below.refl _ _) rfl
    · refine step_guard [14, 17] (by kernel_rfl) (j := 14) (t := 19) (b := true) rfl (by simp) rfl hl rfl (fun v w h => h) fun us w' hG hV => ?_
      have e17 : us 17 = .int .i64 n := hV 17 (by simp)
      have v17 := (frame_at2 (us := us) hl (show (mfT[22]?).join = some 17 from rfl)).trans e17
      have q := Q3.out
      generalize frame mfT a0 us = fr at *
      exact val_ok (v := .bool true) (w' := w') (by go_simp) hG (Below.refl _ _) rfl
    · refine step_plain [14, 18] (by kernel_rfl) rfl fun us w' hG hV => ?_
      have e14 : us 14 = .bool true := hV 14 (by simp)
      have v14 := (frame_at2 (us := us) hl (show (mfT[19]?).join = some 14 from rfl)).trans e14
      have e18 : us 18 = .bool true := hV 18 (by simp)
      have v18 := (frame_at2 (us := us) hl (show (mfT[23]?).join = some 18 from rfl)).trans e18
      generalize frame mfT a0 us = fr at *
      exact val_ok (v := .bool true) (w' := w') (by go_simp) hG (Below.refl _ _) rfl
    · refine step_plain [19] (by kernel_rfl) rfl fun us w' hG hV => ?_
      have e19 : us 19 = .bool true := hV 19 (by simp)
      have v19 := (frame_at2 (us := us) hl (show (mfT[24]?).join = some 19 from rfl)).trans e19
      generalize frame mfT a0 us = fr at *
      exact val_ok (v := .bool true) (w' := w') (by go_simp) hG (Below.refl _ _) rfl
    · refine step_guard [20] (by kernel_rfl) (j := 20) (t := 25) (b := true) rfl (by simp) rfl hl rfl (fun v w h => h) fun us w' hG hV => ?_
      have o1 := (frame_old2 (us := us) (a := a0) (show (mfT[1]?).join = none from rfl)).trans k1
      generalize frame mfT a0 us = fr at *
      exact val_ok (v := .bool false) (w' := w') (by go_simp) hG (Below.refl _ _) rfl
    · refine step_guard [20, 21] (by kernel_rfl) (j := 20) (t := 25) (b := true) rfl (by simp) rfl hl rfl (fun v w h => h) fun us w' hG hV => ?_
      have e21 : us 21 = .bool false := hV 21 (by simp)
      have v21 := (frame_at2 (us := us) hl (show (mfT[26]?).join = some 21 from rfl)).trans e21
      generalize frame mfT a0 us = fr at *
      exact val_ok (v := .bool false) (w' := w') (by go_simp) hG (Below.refl _ _) rfl
    · refine step_guard [22] (by kernel_rfl) (j := 22) (t := 27) (b := false) rfl (by simp) rfl hl rfl (fun v w h => h) fun us w' hG hV => ?_
      have o2 := (frame_old2 (us := us) (a := a0) (show (mfT[2]?).join = none from rfl)).trans k2
      generalize frame mfT a0 us = fr at *
      exact val_ok (v := .pointer (some ⟨w.heap.size, 4, none⟩)) (w' := w') (by go_simp) hG (Below.refl _ _) rfl
    · refine step_guard [22, 23] (by kernel_rfl) (j := 22) (t := 27) (b := false) rfl (by simp) rfl hl rfl (fun v w h => h) fun us w' hG hV => ?_
      have e23 : us 23 = .pointer (some ⟨w.heap.size, 4, none⟩) := hV 23 (by simp)
      have v23 := (frame_at2 (us := us) hl (show (mfT[28]?).join = some 23 from rfl)).trans e23
      have hc := K4.out w' hG
      generalize frame mfT a0 us = fr at *
      exact val_ok (v := .int .u32 mt) (w' := w') (by go_simp) hG (Below.refl _ _) rfl
    · refine step_guard [22, 24] (by kernel_rfl) (j := 22) (t := 27) (b := false) rfl (by simp) rfl hl rfl (fun v w h => h) fun us w' hG hV => ?_
      have e24 : us 24 = .int .u32 mt := hV 24 (by simp)
      have v24 := (frame_at2 (us := us) hl (show (mfT[29]?).join = some 24 from rfl)).trans e24
      have q := Q4.out
      generalize frame mfT a0 us = fr at *
      exact val_ok (v := .bool false) (w' := w') (by go_simp) hG (Below.refl _ _) rfl
    · refine step_guard [20, 22, 25] (by kernel_rfl) (j := 20) (t := 25) (b := true) rfl (by simp) rfl hl rfl (fun v w h => h) fun us w' hG hV => ?_
      have e22 : us 22 = .bool false := hV 22 (by simp)
      have v22 := (frame_at2 (us := us) hl (show (mfT[27]?).join = some 22 from rfl)).trans e22
      have e25 : us 25 = .bool false := hV 25 (by simp)
      have v25 := (frame_at2 (us := us) hl (show (mfT[30]?).join = some 25 from rfl)).trans e25
      generalize frame mfT a0 us = fr at *
      exact val_ok (v := .bool false) (w' := w') (by go_simp) hG (Below.refl _ _) rfl
    · refine step_plain [20, 26] (by kernel_rfl) rfl fun us w' hG hV => ?_
      have e20 : us 20 = .bool true := hV 20 (by simp)
      have v20 := (frame_at2 (us := us) hl (show (mfT[25]?).join = some 20 from rfl)).trans e20
      have e26 : us 26 = .bool false := hV 26 (by simp)
      have v26 := (frame_at2 (us := us) hl (show (mfT[31]?).join = some 26 from rfl)).trans e26
      generalize frame mfT a0 us = fr at *
      exact val_ok (v := .bool false) (w' := w') (by go_simp) hG (Below.refl _ _) rfl
    · refine step_plain [27] (by kernel_rfl) rfl fun us w' hG hV => ?_
      have e27 : us 27 = .bool false := hV 27 (by simp)
      have v27 := (frame_at2 (us := us) hl (show (mfT[32]?).join = some 27 from rfl)).trans e27
      generalize frame mfT a0 us = fr at *
      exact val_ok (v := .bool false) (w' := w') (by go_simp) hG (Below.refl _ _) rfl
    · intro us w5 hG hV
      have e8 : us 28 = .bool false := hV 28 (by decide)
      subst ha0
      simp only [frame, mfT, fill]
      rw [e8]
      have HG3 := Lib.hid hG
      clear hV hl hG k1 k2 e8
      go_wp2_with fail
      go_ret
      exact ⟨ret_bool HV.out.symm, HB.out.trans (Below.mono HG3.out HB.out.size)⟩
  have Q4 := Lib.hid (show decide (mt ≤ 65535) = true from decide_eq_true h4)
  have HV := Lib.hid (show V = true by rw [HV0.out, decide_eq_true h1, decide_eq_true h2, decide_eq_true h3, decide_eq_true h4]; rfl)
  clear HV0 h1 h2 h3 h4
  go_enter Try.func14, Try.ntmps14
  go_upto_region 1 with fail
  rw [← hW]
  clear hW
  refine with_act fun a0 ha0 => ?_
  have hl : mgT.length = a0.tmps.size := by rw [ha0]; rfl
  have k1 : a0.tmps[1]?.getD undef = .bool false := by rw [ha0]; rfl
  have k2 : a0.tmps[2]?.getD undef = .pointer (some ⟨w.heap.size, 0, none⟩) := by rw [ha0]; rfl
  refine wp_region_vals (by kernel_rfl) mgT (by kernel_rfl) (by kernel_rfl) hl (fun i => if i = 28 then .bool false else undef) (by rw [ha0]; rfl) (Gr W) (mgV w.heap.size CP CK ki mt A n c false) (show Gr _ _ from (Below.refl _ _).drew) (mgV.keep _ _ _ _ _ _ _ _ _) ⟨?_, ?_, ?_, ?_, ?_, ?_, ?_, ?_, ?_, ?_, ?_, ?_, ?_, ?_, ?_, ?_, ?_, ?_, ?_, ?_, ?_, ?_, ?_, ?_, ?_, ?_, ?_, ?_, ?_, trivial⟩ ?_
  · refine step_plain [] (by kernel_rfl) rfl fun us w' hG hV => ?_
    have o2 := (frame_old2 (us := us) (a := a0) (show (mgT[2]?).join = none from rfl)).trans k2
    generalize frame mgT a0 us = fr at *
    exact val_ok (v := .pointer (some ⟨w.heap.size, 0, none⟩)) (w' := w') (by go_simp) hG (Below.refl _ _) rfl
  · refine step_plain [0] (by kernel_rfl) rfl fun us w' hG hV => ?_
    have e0 : us 0 = .pointer (some ⟨w.heap.size, 0, none⟩) := hV 0 (by simp)
    have v0 := (frame_at2 (us := us) hl (show (mgT[5]?).join = some 0 from rfl)).trans e0
    have hc := K0.out w' hG
    generalize frame mgT a0 us = fr at *
    exact val_ok (v := .int .i64 ki) (w' := w') (by go_simp) hG (Below.refl _ _) rfl
  · refine step_plain [1] (by kernel_rfl) rfl fun us w' hG hV => ?_
    have e1 : us 1 = .int .i64 ki := hV 1 (by simp)
    have v1 := (frame_at2 (us := us) hl (show (mgT[6]?).join = some 1 from rfl)).trans e1
    have q := Q1.out
    generalize frame mgT a0 us = fr at *
    exact val_ok (v := .bool true) (w' := w') (by go_simp) hG (Below.refl _ _) rfl
  · refine step_plain [2] (by kernel_rfl) rfl fun us w' hG hV => ?_
    have e2 : us 2 = .bool true := hV 2 (by simp)
    have v2 := (frame_at2 (us := us) hl (show (mgT[7]?).join = some 2 from rfl)).trans e2
    generalize frame mgT a0 us = fr at *
    exact val_ok (v := .bool true) (w' := w') (by go_simp) hG (Below.refl _ _) rfl
  · refine step_guard [3] (by kernel_rfl) (j := 3) (t := 8) (b := true) rfl (by simp) rfl hl rfl (fun v w h => h) fun us w' hG hV => ?_
    have o2 := (frame_old2 (us := us) (a := a0) (show (mgT[2]?).join = none from rfl)).trans k2
    generalize frame mgT a0 us = fr at *
    exact val_ok (v := .pointer (some ⟨w.heap.size, 0, none⟩)) (w' := w') (by go_simp) hG (Below.refl _ _) rfl
  · refine step_guard [3, 4] (by kernel_rfl) (j := 3) (t := 8) (b := true) rfl (by simp) rfl hl rfl (fun v w h => h) fun us w' hG hV => ?_
    have e4 : us 4 = .pointer (some ⟨w.heap.size, 0, none⟩) := hV 4 (by simp)
    have v4 := (frame_at2 (us := us) hl (show (mgT[9]?).join = some 4 from rfl)).trans e4
    have hc := K0.out w' hG
    generalize frame mgT a0 us = fr at *
    exact val_ok (v := .int .i64 ki) (w' := w') (by go_simp) hG (Below.refl _ _) rfl
  · refine step_guard [3, 5] (by kernel_rfl) (j := 3) (t := 8) (b := true) rfl (by simp) rfl hl rfl (fun v w h => h) fun us w' hG hV => ?_
    have e5 : us 5 = .int .i64 ki := hV 5 (by simp)
    have v5 := (frame_at2 (us := us) hl (show (mgT[10]?).join = some 5 from rfl)).trans e5
    have q := Q2.out
    generalize frame mgT a0 us = fr at *
    exact val_ok (v := .bool true) (w' := w') (by go_simp) hG (Below.refl _ _) rfl
  · refine step_plain [3, 6] (by kernel_rfl) rfl fun us w' hG hV => ?_
    have e3 : us 3 = .bool true := hV 3 (by simp)
    have v3 := (frame_at2 (us := us) hl (show (mgT[8]?).join = some 3 from rfl)).trans e3
    have e6 : us 6 = .bool true := hV 6 (by simp)
    have v6 := (frame_at2 (us := us) hl (show (mgT[11]?).join = some 6 from rfl)).trans e6
    generalize frame mgT a0 us = fr at *
    exact val_ok (v := .bool true) (w' := w') (by go_simp) hG (Below.refl _ _) rfl
  · refine step_plain [7] (by kernel_rfl) rfl fun us w' hG hV => ?_
    have e7 : us 7 = .bool true := hV 7 (by simp)
    have v7 := (frame_at2 (us := us) hl (show (mgT[12]?).join = some 7 from rfl)).trans e7
    generalize frame mgT a0 us = fr at *
    exact val_ok (v := .bool true) (w' := w') (by go_simp) hG (Below.refl _ _) rfl
  · refine step_guard [8] (by kernel_rfl) (j := 8) (t := 13) (b := true) rfl (by simp) rfl hl rfl (fun v w h => h) fun us w' hG hV => ?_
    have o2 := (frame_old2 (us := us) (a := a0) (show (mgT[2]?).join = none from rfl)).trans k2
    have hg1 := (KRX.out w' hG)
    generalize frame mgT a0 us = fr at *
    exact load_ok 26 2 rfl (w.heap.size) o2 _ _ (0, 0) _ hg1 Try.underlying26 rfl IP.out hG rfl
  · refine step_guard [8, 9] (by kernel_rfl) (j := 8) (t := 13) (b := true) rfl (by simp) rfl hl rfl (fun v w h => h) fun us w' hG hV => ?_
    have e9 : us 9 = .agg CP := hV 9 (by simp)
    have v9 := (frame_at2 (us := us) hl (show (mgT[14]?).join = some 9 from rfl)).trans e9
    generalize frame mgT a0 us = fr at *
    exact call_ok (f := 33) (args := #[.agg CP]) (by go_simp) ((KT.out w').mono fun e w'' h => ⟨_, h.1, hG.below h.2, h.2, rfl⟩)
  · refine step_guard [8] (by kernel_rfl) (j := 8) (t := 13) (b := true) rfl (by simp) rfl hl rfl (fun v w h => h) fun us w' hG hV => ?_
    have o2 := (frame_old2 (us := us) (a := a0) (show (mgT[2]?).join = none from rfl)).trans k2
    have hg1 := (KRX.out w' hG)
    generalize frame mgT a0 us = fr at *
    exact load_ok 26 2 rfl (w.heap.size) o2 _ _ (0, 0) _ hg1 Try.underlying26 rfl IP.out hG rfl
  · refine step_guard [8, 10, 11] (by kernel_rfl) (j := 8) (t := 13) (b := true) rfl (by simp) rfl hl rfl (fun v w h => h) fun us w' hG hV => ?_
    have e10 : us 10 = .agg CK := hV 10 (by simp)
    have v10 := (frame_at2 (us := us) hl (show (mgT[15]?).join = some 10 from rfl)).trans e10
    have e11 : us 11 = .agg CP := hV 11 (by simp)
    have v11 := (frame_at2 (us := us) hl (show (mgT[16]?).join = some 11 from rfl)).trans e11
    generalize frame mgT a0 us = fr at *
    exact call_ok (f := 16) (args := #[.agg CK, .agg CP]) (by go_simp) ((SM.out w' hG).mono fun e w'' h => ⟨_, h.1, hG.below h.2, h.2, rfl⟩)
  · refine step_plain [8, 12] (by kernel_rfl) rfl fun us w' hG hV => ?_
    have e8 : us 8 = .bool true := hV 8 (by simp)
    have v8 := (frame_at2 (us := us) hl (show (mgT[13]?).join = some 8 from rfl)).trans e8
    have e12 : us 12 = .bool true := hV 12 (by simp)
    have v12 := (frame_at2 (us := us) hl (show (mgT[17]?).join = some 12 from rfl)).trans e12
    generalize frame mgT a0 us = fr at *
    exact val_ok (v := .bool true) (w' := w') (by go_simp) hG (Below.refl _ _) rfl
  · refine step_plain [13] (by kernel_rfl) rfl fun us w' hG hV => ?_
    have e13 : us 13 = .bool true := hV 13 (by simp)
    have v13 := (frame_at2 (us := us) hl (show (mgT[18]?).join = some 13 from rfl)).trans e13
    generalize frame mgT a0 us = fr at *
    exact val_ok (v := .bool true) (w' := w') (by go_simp) hG (Below.refl _ _) rfl
  · refine step_guard [14] (by kernel_rfl) (j := 14) (t := 19) (b := true) rfl (by simp) rfl hl rfl (fun v w h => h) fun us w' hG hV => ?_
    have o2 := (frame_old2 (us := us) (a := a0) (show (mgT[2]?).join = none from rfl)).trans k2
    generalize frame mgT a0 us = fr at *
    exact val_ok (v := .pointer (some ⟨w.heap.size, 5, none⟩)) (w' := w') (by go_simp) hG (Below.refl _ _) rfl
  · refine step_guard [14, 15] (by kernel_rfl) (j := 14) (t := 19) (b := true) rfl (by simp) rfl hl rfl (fun v w h => h) fun us w' hG hV => ?_
    have e15 : us 15 = .pointer (some ⟨w.heap.size, 5, none⟩) := hV 15 (by simp)
    have v15 := (frame_at2 (us := us) hl (show (mgT[20]?).join = some 15 from rfl)).trans e15
    have hc := K5.out w' hG
    generalize frame mgT a0 us = fr at *
    exact val_ok (v := .slice A n c) (w' := w') (by go_simp) hG (Below.refl _ _) rfl
  · refine step_guard [14, 16] (by kernel_rfl) (j := 14) (t := 19) (b := true) rfl (by simp) rfl hl rfl (fun v w h => h) fun us w' hG hV => ?_
    have e16 : us 16 = .slice A n c := hV 16 (by simp)
    have v16 := (frame_at2 (us := us) hl (show (mgT[21]?).join = some 16 from rfl)).trans e16
    generalize frame mgT a0 us = fr at *
    exact val_ok (v := .int .i64 n) (w' := w') (by go_simp) hG (Below.refl _ _) rfl
  · refine step_guard [14, 17] (by kernel_rfl) (j := 14) (t := 19) (b := true) rfl (by simp) rfl hl rfl (fun v w h => h) fun us w' hG hV => ?_
    have e17 : us 17 = .int .i64 n := hV 17 (by simp)
    have v17 := (frame_at2 (us := us) hl (show (mgT[22]?).join = some 17 from rfl)).trans e17
    have q := Q3.out
    generalize frame mgT a0 us = fr at *
    exact val_ok (v := .bool true) (w' := w') (by go_simp) hG (Below.refl _ _) rfl
  · refine step_plain [14, 18] (by kernel_rfl) rfl fun us w' hG hV => ?_
    have e14 : us 14 = .bool true := hV 14 (by simp)
    have v14 := (frame_at2 (us := us) hl (show (mgT[19]?).join = some 14 from rfl)).trans e14
    have e18 : us 18 = .bool true := hV 18 (by simp)
    have v18 := (frame_at2 (us := us) hl (show (mgT[23]?).join = some 18 from rfl)).trans e18
    generalize frame mgT a0 us = fr at *
    exact val_ok (v := .bool true) (w' := w') (by go_simp) hG (Below.refl _ _) rfl
  · refine step_plain [19] (by kernel_rfl) rfl fun us w' hG hV => ?_
    have e19 : us 19 = .bool true := hV 19 (by simp)
    have v19 := (frame_at2 (us := us) hl (show (mgT[24]?).join = some 19 from rfl)).trans e19
    generalize frame mgT a0 us = fr at *
    exact val_ok (v := .bool true) (w' := w') (by go_simp) hG (Below.refl _ _) rfl
  · refine step_guard [20] (by kernel_rfl) (j := 20) (t := 25) (b := true) rfl (by simp) rfl hl rfl (fun v w h => h) fun us w' hG hV => ?_
    have o1 := (frame_old2 (us := us) (a := a0) (show (mgT[1]?).join = none from rfl)).trans k1
    generalize frame mgT a0 us = fr at *
    exact val_ok (v := .bool false) (w' := w') (by go_simp) hG (Below.refl _ _) rfl
  · refine step_guard [20, 21] (by kernel_rfl) (j := 20) (t := 25) (b := true) rfl (by simp) rfl hl rfl (fun v w h => h) fun us w' hG hV => ?_
    have e21 : us 21 = .bool false := hV 21 (by simp)
    have v21 := (frame_at2 (us := us) hl (show (mgT[26]?).join = some 21 from rfl)).trans e21
    generalize frame mgT a0 us = fr at *
    exact val_ok (v := .bool false) (w' := w') (by go_simp) hG (Below.refl _ _) rfl
  · refine step_guard [22] (by kernel_rfl) (j := 22) (t := 27) (b := false) rfl (by simp) rfl hl rfl (fun v w h => h) fun us w' hG hV => ?_
    have o2 := (frame_old2 (us := us) (a := a0) (show (mgT[2]?).join = none from rfl)).trans k2
    generalize frame mgT a0 us = fr at *
    exact val_ok (v := .pointer (some ⟨w.heap.size, 4, none⟩)) (w' := w') (by go_simp) hG (Below.refl _ _) rfl
  · refine step_guard [22, 23] (by kernel_rfl) (j := 22) (t := 27) (b := false) rfl (by simp) rfl hl rfl (fun v w h => h) fun us w' hG hV => ?_
    have e23 : us 23 = .pointer (some ⟨w.heap.size, 4, none⟩) := hV 23 (by simp)
    have v23 := (frame_at2 (us := us) hl (show (mgT[28]?).join = some 23 from rfl)).trans e23
    have hc := K4.out w' hG
    generalize frame mgT a0 us = fr at *
    exact val_ok (v := .int .u32 mt) (w' := w') (by go_simp) hG (Below.refl _ _) rfl
  · refine step_guard [22, 24] (by kernel_rfl) (j := 22) (t := 27) (b := false) rfl (by simp) rfl hl rfl (fun v w h => h) fun us w' hG hV => ?_
    have e24 : us 24 = .int .u32 mt := hV 24 (by simp)
    have v24 := (frame_at2 (us := us) hl (show (mgT[29]?).join = some 24 from rfl)).trans e24
    have q := Q4.out
    generalize frame mgT a0 us = fr at *
    exact val_ok (v := .bool true) (w' := w') (by go_simp) hG (Below.refl _ _) rfl
  · refine step_guard [20, 22, 25] (by kernel_rfl) (j := 20) (t := 25) (b := true) rfl (by simp) rfl hl rfl (fun v w h => h) fun us w' hG hV => ?_
    have e22 : us 22 = .bool false := hV 22 (by simp)
    have v22 := (frame_at2 (us := us) hl (show (mgT[27]?).join = some 22 from rfl)).trans e22
    have e25 : us 25 = .bool true := hV 25 (by simp)
    have v25 := (frame_at2 (us := us) hl (show (mgT[30]?).join = some 25 from rfl)).trans e25
    generalize frame mgT a0 us = fr at *
    exact val_ok (v := .bool true) (w' := w') (by go_simp) hG (Below.refl _ _) rfl
  · refine step_plain [20, 26] (by kernel_rfl) rfl fun us w' hG hV => ?_
    have e20 : us 20 = .bool true := hV 20 (by simp)
    have v20 := (frame_at2 (us := us) hl (show (mgT[25]?).join = some 20 from rfl)).trans e20
    have e26 : us 26 = .bool true := hV 26 (by simp)
    have v26 := (frame_at2 (us := us) hl (show (mgT[31]?).join = some 26 from rfl)).trans e26
    generalize frame mgT a0 us = fr at *
    exact val_ok (v := .bool true) (w' := w') (by go_simp) hG (Below.refl _ _) rfl
  · refine step_plain [27] (by kernel_rfl) rfl fun us w' hG hV => ?_
    have e27 : us 27 = .bool true := hV 27 (by simp)
    have v27 := (frame_at2 (us := us) hl (show (mgT[32]?).join = some 27 from rfl)).trans e27
    generalize frame mgT a0 us = fr at *
    exact val_ok (v := .bool true) (w' := w') (by go_simp) hG (Below.refl _ _) rfl
  · intro us w5 hG hV
    have e8 : us 28 = .bool true := hV 28 (by decide)
    subst ha0
    simp only [frame, mgT, fill]
    rw [e8]
    have HG3 := Lib.hid hG
    clear hV hl hG k1 k2 e8
    go_wp2_with fail
    go_ret
    exact ⟨ret_bool HV.out.symm, HB.out.trans (Below.mono HG3.out HB.out.size)⟩
end Go.Proofs.Ytmbfgolcinniiaa.icC
