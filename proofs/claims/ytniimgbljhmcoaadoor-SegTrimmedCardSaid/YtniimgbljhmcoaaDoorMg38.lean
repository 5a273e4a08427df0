/-
  3 texts of a proof, joined.
-/
import Derived.Test.YtniimgbljhmcoaaDoorMg2
import Derived.Test.YtniimgbljhmcoaaDoorMg25
import Derived.Test.YtniimgbljhmcoaaDoorMg34
import Derived.Test.YtniimgbljhmcoaaDoorMg12
import Derived.Test.YtniimgbljhmcoaaDoorMg22
import Derived.Laws.BitsAllLaws
import Derived.Test.YtniimgbljhmcoaaDoorMg29
import Derived.Test.YtniimgbljhmcoaaDoorMg21
import Derived.Test.YtniimgbljhmcoaaDoorMg10
import Derived.Test.YtniimgbljhmcoaaDoorMg30
import Derived.Test.YtniimgbljhmcoaaDoorMg28
import Derived.Test.YtniimgbljhmcoaaDoorMg26
import Derived.Test.YtniimgbljhmcoaaDoorMg3
import Derived.Test.YtniimgbljhmcoaaDoorMg35

/-
  A number's nearest within bounds, and whether a place is kept: the program's.
-/
namespace Go.Proofs.YtniimgbljhmcoaaDoor.sgC
open Go.ChangeShapes Go.WideShapes Go.ChangeAt Go.RowKit
open Go.Proofs.YtniimgbljhmcoaaDoor.memC Go.Proofs.YtniimgbljhmcoaaDoor.genC Go.Proofs.YtniimgbljhmcoaaDoor.butC Go.Proofs.YtniimgbljhmcoaaDoor.freeC Go.Proofs.YtniimgbljhmcoaaDoor.adC
set_option linter.unusedVariables false
set_option linter.unusedSimpArgs false
set_option maxHeartbeats 1000000 in
theorem fit_any (x y : Int) (w : World) (hx : -1000000000000 ≤ x ∧ x ≤ 1000000000000) (hy : 0 ≤ y ∧ y ≤ 1000000000000) : Calls Tryd.prog 87 #[.int .i64 x, .int .i64 y] w (Ret w (.int .i64 (min (max x 0) y))) := by
  obtain ⟨hx0, hx1⟩ := hx
  obtain ⟨hy0, hy1⟩ := hy
  by_cases c1 : x < 0
  · have c3 : ¬ y < 0 := by omega
    go_enter Tryd.func87, Tryd.ntmps87
    go_wp2_with fail
    go_ret
    exact ⟨octC.ret_int (by omega), Below.refl _ _⟩
  · have c3 : 0 ≤ x := by omega
    by_cases c2 : y < x
    · go_enter Tryd.func87, Tryd.ntmps87
      go_wp2_with fail
      go_ret
      exact ⟨octC.ret_int (by omega), Below.refl _ _⟩
    · have c4 : x ≤ y := by omega
      go_enter Tryd.func87, Tryd.ntmps87
      go_wp2_with fail
      go_ret
      exact ⟨octC.ret_int (by omega), Below.refl _ _⟩
set_option maxHeartbeats 1000000 in
theorem kept_any (g4 g5 : Nat) (a b p : Int) (w : World) (h4 : w.cell? ⟨g4, 0, none⟩ = some (.int .i64 a)) (h5 : w.cell? ⟨g5, 0, none⟩ = some (.int .i64 b)) : Calls Tryd.prog 86 #[.int .i64 p, .pointer (some ⟨g4, 0, none⟩), .pointer (some ⟨g5, 0, none⟩)] w (Ret w (.bool (decide (a ≤ p) && decide (p < b)))) := by
  by_cases c1 : a ≤ p
  · rw [decide_eq_true c1]
    by_cases c2 : p < b
    · rw [decide_eq_true c2]
      go_enter Tryd.func86, Tryd.ntmps86
      go_wp2_with fail
      go_ret
      exact ⟨rfl, Below.refl _ _⟩
    · rw [decide_eq_false c2]
      have c3 : b ≤ p := by omega
      go_enter Tryd.func86, Tryd.ntmps86
      go_wp2_with fail
      go_ret
      exact ⟨rfl, Below.refl _ _⟩
  · rw [decide_eq_false c1]
    have c3 : p < a := by omega
    go_enter Tryd.func86, Tryd.ntmps86
    go_wp2_with fail
    go_ret
    exact ⟨rfl, Below.refl _ _⟩
end Go.Proofs.YtniimgbljhmcoaaDoor.sgC

/-
  Parse of some bytes: the document's.
-/
namespace Go.Proofs.YtniimgbljhmcoaaDoor.sxC
open Go.ChangeShapes Go.WideShapes Go.ChangeAt Go.RowKit
open Go.Proofs.YtniimgbljhmcoaaDoor.memC Go.Proofs.YtniimgbljhmcoaaDoor.genC Go.Proofs.YtniimgbljhmcoaaDoor.butC Go.Proofs.YtniimgbljhmcoaaDoor.freeC Go.Proofs.YtniimgbljhmcoaaDoor.adC Go.Proofs.YtniimgbljhmcoaaDoor.pkC
open Go.Proofs.YtniimgbljhmcoaaDoor.octC (Fr Rd RdD stopped)
set_option linter.unusedVariables false
/-- b[f:e], f within -/
theorem cut_at (b o n c f e m d : Nat) (zf ze : Int) (hf : (f : Int) = zf) (he : (e : Int) = ze) (h1 : f ≤ e) (h2 : e ≤ c) (h3 : f < c) (hm : e - f = m) (hd : c - f = d) (w : World) :
    (Instr.slice 32 (.slice (some ⟨b, o, none⟩) n c) (some (.int .i64 zf)) (some (.int .i64 ze)) none).run Tryd.prog w = .ok (.slice (some ⟨b, o + f, none⟩) m d) w := by
  subst hf he hm hd
  have h := cut_two (some ⟨b, o, none⟩) n c f e h1 h2 w
  rw [if_neg (by omega), show (some (⟨b, o, none⟩ : Addr)).map (·.add f) = some ⟨b, o + f, none⟩ by simp [memC.add_plain]] at h
  exact h
theorem cut_tz (A : Option Addr) (n c f m d : Nat) (zf : Int) (hf : (f : Int) = zf) (h1 : f ≤ n) (h2 : n ≤ c) (hm : n - f = m) (hd : c - f = d) (A2 : Option Addr) (hA : A2 = if c = f then A else A.map (·.add f)) (w : World) :
    (Instr.slice 32 (.slice A n c) (some (.int .i64 zf)) none none).run Tryd.prog w = .ok (.slice A2 m d) w := by
  subst hf hm hd hA
  exact cut_tail A n c f h1 h2 w
/-- some bytes of a slice -/
theorem nums_at {w : World} {B b o n : Nat} {bs : List Int} (h : Nums .u8 w B (some ⟨b, o, none⟩) n bs) (f m : Nat) (hm : f + m ≤ n) : Nums .u8 w B (some ⟨b, o + f, none⟩) m ((bs.drop f).take m) := by
  refine ⟨by rw [List.length_take, List.length_drop, h.len]; omega, fun h0 => ?_⟩
  obtain ⟨b', o', e, hb, hc⟩ := h.at_ (by omega)
  cases e
  refine ⟨b, o + f, rfl, hb, fun i hi => ?_⟩
  have := hc (f + i) (by omega)
  rw [Nat.add_assoc, this]
  rw [List.getD_eq_getElem?_getD, List.getD_eq_getElem?_getD, List.getElem?_take, if_pos hi, List.getElem?_drop]
theorem get2_at (b o n c k : Nat) (bs : List Int) (w : World) (hb : Nums .u8 w w.heap.size (some ⟨b, o, none⟩) n bs) (hy : ∀ x ∈ bs, Byte x) (hk : k + 2 ≤ n) (d : Nat) (hd : 2 ≤ d) (hm : d ≤ 9223372036854775807) :
    Calls Tryd.prog 50 #[.slice (some ⟨b, o + k, none⟩) 2 d] w fun e w' => e = .returned (.int .u64 (w2 bs k)) ∧ w = w' := by
  have h := octC.getref_any (some ⟨b, o + k, none⟩) 2 d _ w (nums_at hb k 2 hk) (by decide) hd hm (fun x hx => hy x (List.mem_of_mem_drop (List.mem_of_mem_take hx)))
  rw [octC.last8_take _ 2 (by decide), getZ2 (by rw [List.length_drop, hb.len]; omega)] at h
  have e : w2 (bs.drop k) 0 = w2 bs k := by unfold w2; simp only [List.getD_eq_getElem?_getD, List.getElem?_drop]; rfl
  rw [e] at h
  exact h
section
variable {w w1 w2 : World} {g : Nat} {A : Option Addr} {c : Nat} {X : List Int} {p : Pkt}
end
end Go.Proofs.YtniimgbljhmcoaaDoor.sxC

/-
  A part of a segment: the program's.
-/
namespace Go.Proofs.YtniimgbljhmcoaaDoor.sgC
open Go.ChangeShapes Go.WideShapes Go.ChangeAt Go.RowKit
open Go.Proofs.YtniimgbljhmcoaaDoor.memC Go.Proofs.YtniimgbljhmcoaaDoor.genC Go.Proofs.YtniimgbljhmcoaaDoor.butC Go.Proofs.YtniimgbljhmcoaaDoor.freeC Go.Proofs.YtniimgbljhmcoaaDoor.adC
open Go.Proofs.YtniimgbljhmcoaaDoor.opC (zOpt zOpt_ok U32 Prs OwnP gr_drewG)
set_option linter.unusedVariables false
theorem oneN_syn {f : Int} (h : Byte f) : oneN (hasS f 2) = syN f := by
  rw [has_syn h]
  rcases syN_bd f with e | e <;> rw [e] <;> rfl
theorem nums_cut {w : World} {B : Nat} {A : Option Addr} {m d : Nat} {xs : List Int} (h : Nums .u8 w B A m xs) {lo hi : Nat} (h1 : lo ≤ hi) (h2 : hi ≤ m) (hd : m ≤ d) : Nums .u8 w B (if d = lo then A else A.map (·.add lo)) (hi - lo) ((xs.take hi).drop lo) := by
  have hl := h.len
  rcases Nat.eq_zero_or_pos (hi - lo) with h0 | h0
  · rw [h0]
    exact ⟨by rw [List.length_drop, List.length_take]; omega, fun h => absurd h (Nat.lt_irrefl 0)⟩
  · obtain ⟨b, o, rfl, hb, hc⟩ := h.at_ (by omega)
    rw [if_neg (by omega), show (some (⟨b, o, none⟩ : Addr)).map (·.add lo) = some ⟨b, o + lo, none⟩ by simp [memC.add_plain], List.drop_take]
    exact sxC.nums_at h lo (hi - lo) (by omega)
theorem cut_flags {f : Int} (h : Byte f) (m : Nat) {a b : Int} {r0 r1 : Bool} (h0 : (decide (a ≤ 0) && decide (0 < b)) = r0) (h1 : (decide (a ≤ syN f + m) && decide (syN f + m < b)) = r1) :
    cutF f m a b = if r1 = true then (if r0 = true then f else bits .andNot .u8 f 2) else bits .andNot .u8 (if r0 = true then f else bits .andNot .u8 f 2) 1 := by
  have hy := syN_bd f
  have hi := fiN_bd f
  have eY : cuY f a b = if r0 = true then syN f else 0 := by
    unfold cuY
    rw [← h0]
    simp only [Bool.and_eq_true, decide_eq_true_eq]
  have eI : cuI f m a b = if r1 = true then fiN f else 0 := by
    unfold cuI
    rw [← h1]
    simp only [Bool.and_eq_true, decide_eq_true_eq]
  have e1 : (if r0 = true then f else bits .andNot .u8 f 2) = flF f (cuY f a b) (fiN f) := by
    rw [eY]
    cases r0
    · rw [if_neg (by decide), if_neg (by decide), not_syn h]; unfold flF; omega
    · rw [if_pos rfl, if_pos rfl]; exact flF_self.symm
  have yb := cuY_bd f a b
  rw [e1]
  unfold cutF
  rw [eI]
  cases r1
  · rw [if_neg (by decide), if_neg (by decide), not_fin (flF_byte h yb hi), syN_flF yb hi]
    unfold flF
    omega
  · rw [if_pos rfl, if_pos rfl]
/-- the bytes again, without room behind them -/
theorem cut_three (A : Option Addr) (n c : Nat) (h : n ≤ c) (w : World) : (Instr.slice 32 (.slice A n c) none (some (.int .i64 (n : Int))) (some (.int .i64 (n : Int)))).run Tryd.prog w = .ok (.slice A n n) w := by
  have k1 : (n : Int) ≤ (c : Int) := by omega
  have k2 : (0 : Int) ≤ (n : Int) := by omega
  have q1 : ¬ (c : Int) < (n : Int) := by omega
  go_simp
/-- a part of a segment: in memory of its own -/
def PtR (w : World) (s : Sg) (n : Nat) (X : List Int) (e : Ending) (w' : World) : Prop :=
  ∃ A c B m d p, e = .returned (.agg (segV s A n c B m d)) ∧ s.op.sk.length = n ∧ OwnP w' w.heap.size (.slice A n c) s.op.sk ∧ Own .u8 5 w' w.heap.size (.slice B m p) X ∧ m ≤ d ∧ Below w.heap.size w w'
/-- what stands while a part is made -/
structure Pt (w0 w : World) (a b : Int) (s : Sg) (A : Option Addr) (n c : Nat) (B : Option Addr) (m d : Nat) : Prop where
  row : SegAt w w0.heap.size s A n c B m d
  ca : w.heap[w0.heap.size + 1]? = some (.cells #[.int .i64 a] 2 (0, 0))
  cb : w.heap[w0.heap.size + 2]? = some (.cells #[.int .i64 b] 2 (0, 0))
  res : SegAt w (w0.heap.size + 3) zSg none 0 0 none 0 0
  bel : Below w0.heap.size w0 w
section
variable {w0 w w' : World} {a b : Int} {s s' : Sg} {A A' : Option Addr} {n c n' c' : Nat} {B B' : Option Addr} {m d m' d' : Nat}
theorem Pt.next (h : Pt w0 w a b s A n c B m d) (q : Below w.heap.size w w') : Pt w0 w' a b s A n c B m d :=
  ⟨h.row.bel q, (q.block _ (opC.lt_of_row h.ca)).trans h.ca, (q.block _ (opC.lt_of_row h.cb)).trans h.cb, h.res.bel q, h.bel.trans (q.mono h.bel.size)⟩
theorem Pt.set_ (h : Pt w0 w a b s A n c B m d) (j : Nat) (v : Value) (e : (segV s A n c B m d).setIfInBounds j v = segV s' A' n' c' B' m' d') : Pt w0 (w.setCell ⟨w0.heap.size, j, none⟩ v) a b s' A' n' c' B' m' d' :=
  ⟨h.row.set_ j v e, (Below.heap_setCell _ _ _ _ (by show w0.heap.size + 1 ≠ w0.heap.size; omega)).trans h.ca, (Below.heap_setCell _ _ _ _ (by show w0.heap.size + 2 ≠ w0.heap.size; omega)).trans h.cb, h.res.other (by show w0.heap.size ≠ w0.heap.size + 3; omega) v, h.bel.setCell (Nat.le_refl _) v⟩
theorem Pt.cella (h : Pt w0 w a b s A n c B m d) : w.cell? ⟨w0.heap.size + 1, 0, none⟩ = some (.int .i64 a) := pkC.PkC.cell h.ca rfl
theorem Pt.cellb (h : Pt w0 w a b s A n c B m d) : w.cell? ⟨w0.heap.size + 2, 0, none⟩ = some (.int .i64 b) := pkC.PkC.cell h.cb rfl
end
def paV (g0 : Nat) (CP : Array Value) (y0 : Int) (B : Option Addr) (m d : Nat) : Nat → Value → World → Prop
  | 0, v, _ => v = .agg CP
  | 1, v, _ => v = .int .u32 y0
  | 2, v, _ => v = .int .i64 y0
  | 3, v, _ => v = .pointer (some ⟨g0, 31, none⟩)
  | 4, v, _ => v = .slice B m d
  | 5, v, _ => v = .int .i64 m
  | 6, v, _ => v = .int .i64 y0
  | 7, v, _ => v = .int .i64 m
  | _, _, _ => True
theorem paV.keep (g0 : Nat) (CP : Array Value) (y0 : Int) (B : Option Addr) (m d : Nat) (i : Nat) (v : Value) (w w' : World) (hb : Below w.heap.size w w') (h : paV g0 CP y0 B m d i v w) : paV g0 CP y0 B m d i v w' := by
  unfold paV at h ⊢
  split at h <;> exact h
def paT : List (Option Nat) := [none, none, none, none, none, none, none, none, some 6, some 7, none, none, some 0, some 1, some 2, some 3, some 4, some 5, none, none, none, none, none, none, none, none, none, none, none, none, none, none, none, none, none, none, none, none, none, none, none, none, none, none, none, none, none, none, none, none, none, none, none, none, none, none, none, none, none, none, none, none, none]
def pbV (g0 g4 g5 : Nat) (B : Option Addr) (m d : Nat) (a b y0 : Int) (lo hi K : Nat) (B1 : Option Addr) (d1 base : Nat) (XS : List Int) : Nat → Value → World → Prop
  | 0, v, _ => v = .pointer (some ⟨g0, 31, none⟩)
  | 1, v, _ => v = .slice B m d
  | 2, v, _ => v = .int .i64 a
  | 3, v, _ => v = .int .i64 y0
  | 4, v, _ => v = .int .i64 (a - y0)
  | 5, v, _ => v = .int .i64 m
  | 6, v, _ => v = .int .i64 lo
  | 7, v, _ => v = .int .i64 b
  | 8, v, _ => v = .int .i64 y0
  | 9, v, _ => v = .int .i64 (b - y0)
  | 10, v, _ => v = .int .i64 m
  | 11, v, _ => v = .int .i64 hi
  | 12, v, _ => v = .slice B1 K d1
  | 13, v, w => ∃ A' c', v = .slice A' K c' ∧ K ≤ c' ∧ Own .u8 5 w base (.slice A' K c') XS
  | 14, v, w => ∃ A' c', v = .slice A' K c' ∧ K ≤ c' ∧ Own .u8 5 w base (.slice A' K c') XS
  | _, _, _ => True
theorem pbV.keep (g0 g4 g5 : Nat) (B : Option Addr) (m d : Nat) (a b y0 : Int) (lo hi K : Nat) (B1 : Option Addr) (d1 base : Nat) (XS : List Int) (i : Nat) (v : Value) (w w' : World) (hb : Below w.heap.size w w') (h : pbV g0 g4 g5 B m d a b y0 lo hi K B1 d1 base XS i v w) : pbV g0 g4 g5 B m d a b y0 lo hi K B1 d1 base XS i v w' := by
  by_cases e13 : i = 13
  · subst e13
    obtain ⟨A', c', h1, h2, h3⟩ := h
    exact ⟨A', c', h1, h2, h3.below hb⟩
  by_cases e14 : i = 14
  · subst e14
    obtain ⟨A', c', h1, h2, h3⟩ := h
    exact ⟨A', c', h1, h2, h3.below hb⟩
  unfold pbV at h ⊢
  split at h <;> first | exact h | exact absurd rfl (by assumption)
def pbT : List (Option Nat) := [none, none, none, none, none, none, none, none, none, none, some 14, none, none, none, none, none, none, none, none, none, none, none, none, none, none, none, none, none, none, none, none, none, none, none, none, some 0, some 1, some 2, some 3, some 4, some 5, some 6, some 7, some 8, some 9, some 10, some 11, some 12, some 13, none, none, none, none, none, none, none, none, none, none, none, none, none, none]
set_option maxRecDepth 100000 in
set_option maxHeartbeats 8000000 in
theorem part_any (s : Sg) (A : Option Addr) (n c : Nat) (B : Option Addr) (m d : Nat) (xs : List Int) (a b : Int) (w : World) (hs : s.op.mac.length = 12) (hf : Byte s.fl) (hA : Prs w w.heap.size A n s.op.sk) (hn : n ≤ 100000) (hx : Nums .u8 w w.heap.size B m xs) (hm : m ≤ 100000) (hmd : m ≤ d) (ha : -100000000000 ≤ a ∧ a ≤ 100000000000) (hb : -100000000000 ≤ b ∧ b ≤ 100000000000) (hab : cLo s.fl m a ≤ cLo s.fl m b) :
    Calls Tryd.prog 53 #[.agg (segV s A n c B m d), .int .i64 a, .int .i64 b] w (PtR w { s with fl := cutF s.fl m a b } n (cutL s.fl xs a b)) := by
  have hzv := zeroSeg
  have hmf : ∀ (fn : Fn) (first cap : Array Value) (w : World), (Instr.makeFunc fn first cap).run Tryd.prog w = .ok (.func fn first cap) w := fun _ _ _ _ => rfl
  have hxl := hx.len
  obtain ⟨W, hW⟩ : ∃ W, W = (((w.alloc (.cells (segV s A n c B m d) 34)).alloc (.cells #[.int .i64 a] 2)).alloc (.cells #[.int .i64 b] 2)).alloc (.cells (segV zSg none 0 0 none 0 0) 34) := ⟨_, rfl⟩
  have P1 : Pt w W a b s A n c B m d := by
    obtain ⟨u0, hu0⟩ : ∃ u, u = w.alloc (.cells (segV s A n c B m d) 34) := ⟨_, rfl⟩
    obtain ⟨u1, hu1⟩ : ∃ u, u = u0.alloc (.cells #[.int .i64 a] 2) := ⟨_, rfl⟩
    obtain ⟨u2, hu2⟩ : ∃ u, u = u1.alloc (.cells #[.int .i64 b] 2) := ⟨_, rfl⟩
    rw [← hu0, ← hu1, ← hu2] at hW
    have z0 : u0.heap.size = w.heap.size + 1 := by rw [hu0, alloc_size]
    have z1 : u1.heap.size = w.heap.size + 2 := by rw [hu1, alloc_size, z0]
    have z2 : u2.heap.size = w.heap.size + 3 := by rw [hu2, alloc_size, z1]
    have B0 : Below w.heap.size w u0 := by rw [hu0]; exact alloc_below _ _
    have B1 : Below u0.heap.size u0 u1 := by rw [hu1]; exact alloc_below _ _
    have B2 : Below u1.heap.size u1 u2 := by rw [hu2]; exact alloc_below _ _
    have B3 : Below u2.heap.size u2 W := by rw [hW]; exact alloc_below _ _
    refine ⟨?_, ?_, ?_, ?_, ((B0.trans (B1.mono (by omega))).trans (B2.mono (by omega))).trans (B3.mono (by omega))⟩
    · unfold SegAt; rw [B3.block _ (by omega), B2.block _ (by omega), B1.block _ (by omega), hu0]; exact heap_alloc_new _ _
    · rw [B3.block _ (by omega), B2.block _ (by omega), hu1, ← z0]; exact heap_alloc_new _ _
    · rw [B3.block _ (by omega), hu2, ← z1]; exact heap_alloc_new _ _
    · unfold SegAt; rw [hW, ← z2]; exact heap_alloc_new _ _
  have P1' := Lib.hid P1
  clear P1
  have P1 := P1'
  clear P1'
  have OC := segC hs A n c B m d
  have IC := Lib.hid OC.info
  have KR := Lib.hid (fun (w' : World) (h : Gr W w') => (P1.out.next h).row.row)
  have KD := Lib.hid (fun (w' : World) (h : Gr W w') => pkC.PkC.cell (P1.out.next h).row.row OC.da)
  obtain ⟨y0, hy0⟩ : ∃ y, y = syN s.fl := ⟨_, rfl⟩
  have NO := Lib.hid (fun w' => (show Calls Tryd.prog 37 #[.agg (segV s A n c B m d), .int .u8 2] w' (Ret w' (.int .u32 y0)) by
    have h9 := cnum_any s A n c B m d 2 w' hs
    rw [oneN_syn hf, ← hy0] at h9
    exact h9))
  have y01 := syN_bd s.fl
  rw [← hy0] at y01
  have WY := Lib.hid (show IntKind.i64.wrap y0 = y0 from IntWalk.i64_in _ (by omega))
  have hwy := IntWalk.i64_in (y0 + m) (by omega)
  have HMC := Lib.hid hs
  have hyf := hf
  obtain ⟨r0, hr0⟩ : ∃ r, (decide (a ≤ 0) && decide (0 < b)) = r := ⟨_, rfl⟩
  obtain ⟨r1, hr1⟩ : ∃ r, (decide (a ≤ y0 + m) && decide (y0 + m < b)) = r := ⟨_, rfl⟩
  have HFL := cut_flags (r1 := r1) hf m hr0 (by rw [← hy0]; exact hr1)
  have K0 := Lib.hid (fun (w' : World) (h4 : w'.cell? ⟨w.heap.size + 1, 0, none⟩ = some (.int .i64 a)) (h5 : w'.cell? ⟨w.heap.size + 2, 0, none⟩ = some (.int .i64 b)) => (show Calls Tryd.prog 86 #[.int .i64 0, .pointer (some ⟨w.heap.size + 1, 0, none⟩), .pointer (some ⟨w.heap.size + 2, 0, none⟩)] w' (Ret w' (.bool r0)) by rw [← hr0]; exact kept_any _ _ a b 0 w' h4 h5))
  have K1 := Lib.hid (fun (w' : World) (h4 : w'.cell? ⟨w.heap.size + 1, 0, none⟩ = some (.int .i64 a)) (h5 : w'.cell? ⟨w.heap.size + 2, 0, none⟩ = some (.int .i64 b)) => (show Calls Tryd.prog 86 #[.int .i64 (y0 + m), .pointer (some ⟨w.heap.size + 1, 0, none⟩), .pointer (some ⟨w.heap.size + 2, 0, none⟩)] w' (Ret w' (.bool r1)) by rw [← hr1]; exact kept_any _ _ a b (y0 + m) w' h4 h5))
  obtain ⟨lo, hlo⟩ : ∃ l, l = cLo s.fl m a := ⟨_, rfl⟩
  obtain ⟨hi, hhi⟩ : ∃ l, l = cLo s.fl m b := ⟨_, rfl⟩
  have hlm : hi ≤ m := by rw [hhi]; exact cLo_le _ _ _
  rw [← hlo, ← hhi] at hab
  have FA := Lib.hid (fun (w' : World) => (show Calls Tryd.prog 87 #[.int .i64 (a - y0), .int .i64 m] w' (Ret w' (.int .i64 lo)) by
    have h9 := fit_any (a - y0) m w' (by omega) (by omega)
    rw [show (min (max (a - y0) 0) (m : Int)) = (lo : Int) by rw [hlo]; unfold cLo clN; rw [← hy0]; omega] at h9
    exact h9))
  have FB := Lib.hid (fun (w' : World) => (show Calls Tryd.prog 87 #[.int .i64 (b - y0), .int .i64 m] w' (Ret w' (.int .i64 hi)) by
    have h9 := fit_any (b - y0) m w' (by omega) (by omega)
    rw [show (min (max (b - y0) 0) (m : Int)) = (hi : Int) by rw [hhi]; unfold cLo clN; rw [← hy0]; omega] at h9
    exact h9))
  have WA := Lib.hid (IntWalk.i64_in (a - y0) (by omega))
  have WB := Lib.hid (IntWalk.i64_in (b - y0) (by omega))
  obtain ⟨K, hK⟩ : ∃ k, k = hi - lo := ⟨_, rfl⟩
  obtain ⟨d1, hd1⟩ : ∃ k, k = d - lo := ⟨_, rfl⟩
  obtain ⟨B1, hB1⟩ : ∃ q, q = (if d = lo then B else B.map (·.add lo)) := ⟨_, rfl⟩
  obtain ⟨XS, hXS⟩ : ∃ q, q = (xs.take hi).drop lo := ⟨_, rfl⟩
  have eXS : cutL s.fl xs a b = XS := by unfold cutL; rw [hxl, ← hlo, ← hhi, hXS]
  have SC := Lib.hid (fun w' => pkC.cut_two B m d lo hi hab (by omega) w')
  rw [← hB1, ← hK, ← hd1] at SC
  have XN := Lib.hid (fun (w' : World) (h : Below w.heap.size w w') => nums_cut ((hx.below h).more h.size) hab hlm hmd)
  rw [← hB1, ← hK, ← hXS] at XN
  have CL0 := Lib.hid (fun (w' : World) (h : Below w.heap.size w w') => (show Calls Tryd.prog 80 #[.slice B1 K d1] w' (fun e w'' => ∃ A' c', e = .returned (.slice A' K c') ∧ K ≤ c' ∧ Own .u8 5 w'' w'.heap.size (.slice A' K c') XS ∧ Below w'.heap.size w' w'') by
    have hl9 := (XN.out w' h).len
    refine (octC.clone_any B1 K d1 XS w' (XN.out w' h) (by omega)).mono fun e w'' ⟨A', c', g1, g2, g3, g4, g5, g6⟩ => ?_
    rw [hl9] at g1 g2 g3
    exact ⟨A', c', g1, g3, g2, g6⟩))
  have PL0 := Lib.hid (fun (w' : World) (h : Below w.heap.size w w') => (show Calls Tryd.prog 88 #[.slice A n c] w' (fun e w'' => ∃ A' c', e = .returned (.slice A' n c') ∧ OwnP w'' w'.heap.size (.slice A' n c') s.op.sk ∧ Below w'.heap.size w' w'') by
    have hl9 := hA.len
    refine (opC.pclone_any A n c s.op.sk w' ((hA.below h).more h.size) hn).mono fun e w'' ⟨A', c', g1, g2, g3, g4⟩ => ?_
    rw [hl9] at g1 g3
    exact ⟨A', c', g1, g3, g4⟩))
  obtain ⟨s7, hs7⟩ : ∃ q : Sg, q = { s with fl := cutF s.fl m a b } := ⟨_, rfl⟩
  have HM7 := Lib.hid (show s7.op.mac.length = 12 by rw [hs7]; exact hs)
  have HOP := Lib.hid (show s7.op = s.op by rw [hs7])
  have HLN := Lib.hid hA.len
  have S7 := Lib.hid (fun (F : Int) (h : cutF s.fl m a b = F) => (show ({ s with fl := F } : Sg) = s7 by rw [hs7, h]))
  rw [← hs7, eXS]
  obtain ⟨CP, hCP⟩ : ∃ C, C = segV s A n c B m d := ⟨_, rfl⟩
  simp only [← hCP] at KR IC NO hW ⊢
  clear hCP OC hs7 hr0 hr1 hlo hhi hlm hab hK hd1 hB1 hXS eXS hy0 hxl XN ha hb hyf hx hA hmd
  cases r0 <;> cases r1 <;> simp only [if_true, if_false, Bool.false_eq_true] at HFL
  · go_enter Tryd.func53, Tryd.ntmps53
    go_upto_region 2 with fail
    rw [← hW]
    clear hW hzv
    refine with_act fun a0 ha0 => ?_
    have hl : paT.length = a0.tmps.size := by rw [ha0]; rfl
    have k3 : a0.tmps[3]?.getD undef = .pointer (some ⟨(w.heap.size), 0, none⟩) := by rw [ha0]; rfl
    refine wp_region_vals (by kernel_rfl) paT (by kernel_rfl) (by kernel_rfl) hl (fun i => undef) (by rw [ha0]; rfl) (Gr W) (paV (w.heap.size) CP y0 B m d) (gr_drewG _ _) (paV.keep _ _ _ _ _ _) ⟨?_, ?_, ?_, ?_, ?_, ?_, ?_, ?_, trivial⟩ ?_
    · refine step_plain [] (by kernel_rfl) rfl fun us w' hG hV => ?_
      have o3 := (frame_old2 (us := us) (a := a0) (show (paT[3]?).join = none from rfl)).trans k3
      have hg1 := (KR.out w' hG)
      generalize frame paT a0 us = fr at *
      exact load_ok 34 3 rfl ((w.heap.size)) o3 _ _ (0, 0) _ hg1 Tryd.underlying34 rfl IC.out hG rfl
    · refine step_plain [0] (by kernel_rfl) rfl fun us w' hG hV => ?_
      have e0 : us 0 = .agg CP := hV 0 (by simp)
      have v0 := (frame_at2 (us := us) hl (show (paT[12]?).join = some 0 from rfl)).trans e0
      generalize frame paT a0 us = fr at *
      exact call_ok (f := 37) (args := #[.agg CP, .int .u8 2]) (by go_simp) ((NO.out w').mono fun e w'' h => ⟨_, h.1, hG.below h.2, h.2, rfl⟩)
    · refine step_plain [1] (by kernel_rfl) rfl fun us w' hG hV => ?_
      have e1 : us 1 = .int .u32 y0 := hV 1 (by simp)
      have v1 := (frame_at2 (us := us) hl (show (paT[13]?).join = some 1 from rfl)).trans e1
      have hw := WY.out
      generalize frame paT a0 us = fr at *
      exact val_ok (v := .int .i64 y0) (w' := w') (by go_simp) hG (Below.refl _ _) rfl
    · refine step_plain [] (by kernel_rfl) rfl fun us w' hG hV => ?_
      have o3 := (frame_old2 (us := us) (a := a0) (show (paT[3]?).join = none from rfl)).trans k3
      generalize frame paT a0 us = fr at *
      exact val_ok (v := .pointer (some ⟨(w.heap.size), 31, none⟩)) (w' := w') (by go_simp) hG (Below.refl _ _) rfl
    · refine step_plain [3] (by kernel_rfl) rfl fun us w' hG hV => ?_
      have e3 : us 3 = .pointer (some ⟨(w.heap.size), 31, none⟩) := hV 3 (by simp)
      have v3 := (frame_at2 (us := us) hl (show (paT[15]?).join = some 3 from rfl)).trans e3
      have hc := KD.out w' hG
      generalize frame paT a0 us = fr at *
      exact val_ok (v := .slice B m d) (w' := w') (by go_simp) hG (Below.refl _ _) rfl
    · refine step_plain [4] (by kernel_rfl) rfl fun us w' hG hV => ?_
      have e4 : us 4 = .slice B m d := hV 4 (by simp)
      have v4 := (frame_at2 (us := us) hl (show (paT[16]?).join = some 4 from rfl)).trans e4
      generalize frame paT a0 us = fr at *
      exact val_ok (v := .int .i64 m) (w' := w') (by go_simp) hG (Below.refl _ _) rfl
    · refine step_plain [2] (by kernel_rfl) rfl fun us w' hG hV => ?_
      have e2 : us 2 = .int .i64 y0 := hV 2 (by simp)
      have v2 := (frame_at2 (us := us) hl (show (paT[14]?).join = some 2 from rfl)).trans e2
      generalize frame paT a0 us = fr at *
      exact val_ok (v := .int .i64 y0) (w' := w') (by go_simp) hG (Below.refl _ _) rfl
    · refine step_plain [5] (by kernel_rfl) rfl fun us w' hG hV => ?_
      have e5 : us 5 = .int .i64 m := hV 5 (by simp)
      have v5 := (frame_at2 (us := us) hl (show (paT[17]?).join = some 5 from rfl)).trans e5
      generalize frame paT a0 us = fr at *
      exact val_ok (v := .int .i64 m) (w' := w') (by go_simp) hG (Below.refl _ _) rfl
    · intro us w2 hG hV
      have e6 : us 6 = .int .i64 y0 := hV 6 (by decide)
      have e7 : us 7 = .int .i64 m := hV 7 (by decide)
      subst ha0
      simp only [frame, paT, fill]
      rw [e6, e7]
      have P2 := Lib.hid (P1.out.next hG)
      have ka := P2.out.cella
      have kb := P2.out.cellb
      clear hV hl hG k3 e6 e7 KR KD NO IC P1
      go_upto_region 4 with (first
        | (go_at_call 86; (refine (K0.out _ ka kb).mono ?_); rintro e w3 ⟨rfl, BB⟩
           have P3 := Lib.hid (P2.out.next BB)
           have kfl := pkC.PkC.cell P3.out.row.row (segC HMC.out A n c B m d).fl
           have ffl := P3.out.row.frozen 4
           clear BB))
      clear K0 ka kb P2
      go_upto_region 5 with fail
      have P4 := Lib.hid (P3.out.set_ (s' := { s with fl := (bits .andNot .u8 s.fl 2) }) 4 (.int .u8 (bits .andNot .u8 s.fl 2)) (segV_fl _))
      generalize (w3.setCell ⟨w.heap.size, 4, none⟩ (.int .u8 (bits .andNot .u8 s.fl 2))) = w4 at *
      clear kfl ffl P3
      have ka := P4.out.cella
      have kb := P4.out.cellb
      go_upto_region 6 with (first
        | (go_at_call 86; (refine (K1.out _ ka kb).mono ?_); rintro e w5 ⟨rfl, BB⟩
           have P5 := Lib.hid (P4.out.next BB)
           have kfl := pkC.PkC.cell P5.out.row.row (segC (s := { s with fl := (bits .andNot .u8 s.fl 2) }) HMC.out A n c B m d).fl
           have ffl := P5.out.row.frozen 4
           clear BB))
      clear K1 ka kb P4
      go_upto_region 7 with fail
      have P6 := Lib.hid (P5.out.set_ (s' := { s with fl := (bits .andNot .u8 (bits .andNot .u8 s.fl 2) 1) }) 4 (.int .u8 (bits .andNot .u8 (bits .andNot .u8 s.fl 2) 1)) (segV_fl _))
      generalize (w5.setCell ⟨w.heap.size, 4, none⟩ (.int .u8 (bits .andNot .u8 (bits .andNot .u8 s.fl 2) 1))) = Wr at *
      clear kfl ffl P5
      have PR := Lib.hid (show Pt w Wr a b s7 A n c B m d by rw [← S7.out (bits .andNot .u8 (bits .andNot .u8 s.fl 2) 1) HFL]; exact P6.out)
      clear P6 S7 HFL hwy WY
      have KD := Lib.hid (fun (w' : World) (h : Gr Wr w') => pkC.PkC.cell (PR.out.next h).row.row (segC HM7.out A n c B m d).da)
      have KA := Lib.hid (fun (w' : World) (h : Gr Wr w') => (PR.out.next h).cella)
      have KB := Lib.hid (fun (w' : World) (h : Gr Wr w') => (PR.out.next h).cellb)
      have CL := Lib.hid (fun (w' : World) (h : Gr Wr w') => CL0.out w' (PR.out.next h).bel)
      have LT := Lib.hid PR.out.res.lt
      clear CL0
      refine with_act fun a0 ha0 => ?_
      have hl : pbT.length = a0.tmps.size := by rw [ha0]; rfl
      have k3 : a0.tmps[3]?.getD undef = .pointer (some ⟨(w.heap.size), 0, none⟩) := by rw [ha0]; rfl
      have k4 : a0.tmps[4]?.getD undef = .pointer (some ⟨(w.heap.size + 1), 0, none⟩) := by rw [ha0]; rfl
      have k5 : a0.tmps[5]?.getD undef = .pointer (some ⟨(w.heap.size + 2), 0, none⟩) := by rw [ha0]; rfl
      have k8 : a0.tmps[8]?.getD undef = .int .i64 y0 := by rw [ha0]; rfl
      have k9 : a0.tmps[9]?.getD undef = .int .i64 m := by rw [ha0]; rfl
      refine wp_region_vals (by kernel_rfl) pbT (by kernel_rfl) (by kernel_rfl) hl (fun i => undef) (by rw [ha0]; rfl) (Gr Wr) (pbV (w.heap.size) (w.heap.size + 1) (w.heap.size + 2) B m d a b y0 lo hi K B1 d1 (Wr.heap.size) XS) (gr_drewG _ _) (pbV.keep _ _ _ _ _ _ _ _ _ _ _ _ _ _ _ _) ⟨?_, ?_, ?_, ?_, ?_, ?_, ?_, ?_, ?_, ?_, ?_, ?_, ?_, ?_, ?_, trivial⟩ ?_
      · refine step_plain [] (by kernel_rfl) rfl fun us w' hG hV => ?_
        have o3 := (frame_old2 (us := us) (a := a0) (show (pbT[3]?).join = none from rfl)).trans k3
        generalize frame pbT a0 us = fr at *
        exact val_ok (v := .pointer (some ⟨(w.heap.size), 31, none⟩)) (w' := w') (by go_simp) hG (Below.refl _ _) rfl
      · refine step_plain [0] (by kernel_rfl) rfl fun us w' hG hV => ?_
        have e0 : us 0 = .pointer (some ⟨(w.heap.size), 31, none⟩) := hV 0 (by simp)
        have v0 := (frame_at2 (us := us) hl (show (pbT[35]?).join = some 0 from rfl)).trans e0
        have hc := KD.out w' hG
        generalize frame pbT a0 us = fr at *
        exact val_ok (v := .slice B m d) (w' := w') (by go_simp) hG (Below.refl _ _) rfl
      · refine step_plain [] (by kernel_rfl) rfl fun us w' hG hV => ?_
        have o4 := (frame_old2 (us := us) (a := a0) (show (pbT[4]?).join = none from rfl)).trans k4
        have hc := KA.out w' hG
        generalize frame pbT a0 us = fr at *
        exact val_ok (v := .int .i64 a) (w' := w') (by go_simp) hG (Below.refl _ _) rfl
      · refine step_plain [] (by kernel_rfl) rfl fun us w' hG hV => ?_
        have o8 := (frame_old2 (us := us) (a := a0) (show (pbT[8]?).join = none from rfl)).trans k8
        generalize frame pbT a0 us = fr at *
        exact val_ok (v := .int .i64 y0) (w' := w') (by go_simp) hG (Below.refl _ _) rfl
      · refine step_plain [2, 3] (by kernel_rfl) rfl fun us w' hG hV => ?_
        have e2 : us 2 = .int .i64 a := hV 2 (by simp)
        have v2 := (frame_at2 (us := us) hl (show (pbT[37]?).join = some 2 from rfl)).trans e2
        have e3 : us 3 = .int .i64 y0 := hV 3 (by simp)
        have v3 := (frame_at2 (us := us) hl (show (pbT[38]?).join = some 3 from rfl)).trans e3
        have hw := WA.out
        generalize frame pbT a0 us = fr at *
        exact val_ok (v := .int .i64 (a - y0)) (w' := w') (by go_simp) hG (Below.refl _ _) rfl
      · refine step_plain [] (by kernel_rfl) rfl fun us w' hG hV => ?_
        have o9 := (frame_old2 (us := us) (a := a0) (show (pbT[9]?).join = none from rfl)).trans k9
        generalize frame pbT a0 us = fr at *
        exact val_ok (v := .int .i64 m) (w' := w') (by go_simp) hG (Below.refl _ _) rfl
      · refine step_plain [4, 5] (by kernel_rfl) rfl fun us w' hG hV => ?_
        have e4 : us 4 = .int .i64 (a - y0) := hV 4 (by simp)
        have v4 := (frame_at2 (us := us) hl (show (pbT[39]?).join = some 4 from rfl)).trans e4
        have e5 : us 5 = .int .i64 m := hV 5 (by simp)
        have v5 := (frame_at2 (us := us) hl (show (pbT[40]?).join = some 5 from rfl)).trans e5
        generalize frame pbT a0 us = fr at *
        exact call_ok (f := 87) (args := #[.int .i64 (a - y0), .int .i64 m]) (by go_simp) ((FA.out w').mono fun e w'' h => ⟨_, h.1, hG.below h.2, h.2, rfl⟩)
      · refine step_plain [] (by kernel_rfl) rfl fun us w' hG hV => ?_
        have o5 := (frame_old2 (us := us) (a := a0) (show (pbT[5]?).join = none from rfl)).trans k5
        have hc := KB.out w' hG
        generalize frame pbT a0 us = fr at *
        exact val_ok (v := .int .i64 b) (w' := w') (by go_simp) hG (Below.refl _ _) rfl
      · refine step_plain [] (by kernel_rfl) rfl fun us w' hG hV => ?_
        have o8 := (frame_old2 (us := us) (a := a0) (show (pbT[8]?).join = none from rfl)).trans k8
        generalize frame pbT a0 us = fr at *
        exact val_ok (v := .int .i64 y0) (w' := w') (by go_simp) hG (Below.refl _ _) rfl
      · refine step_plain [7, 8] (by kernel_rfl) rfl fun us w' hG hV => ?_
        have e7 : us 7 = .int .i64 b := hV 7 (by simp)
        have v7 := (frame_at2 (us := us) hl (show (pbT[42]?).join = some 7 from rfl)).trans e7
        have e8 : us 8 = .int .i64 y0 := hV 8 (by simp)
        have v8 := (frame_at2 (us := us) hl (show (pbT[43]?).join = some 8 from rfl)).trans e8
        have hw := WB.out
        generalize frame pbT a0 us = fr at *
        exact val_ok (v := .int .i64 (b - y0)) (w' := w') (by go_simp) hG (Below.refl _ _) rfl
      · refine step_plain [] (by kernel_rfl) rfl fun us w' hG hV => ?_
        have o9 := (frame_old2 (us := us) (a := a0) (show (pbT[9]?).join = none from rfl)).trans k9
        generalize frame pbT a0 us = fr at *
        exact val_ok (v := .int .i64 m) (w' := w') (by go_simp) hG (Below.refl _ _) rfl
      · refine step_plain [9, 10] (by kernel_rfl) rfl fun us w' hG hV => ?_
        have e9 : us 9 = .int .i64 (b - y0) := hV 9 (by simp)
        have v9 := (frame_at2 (us := us) hl (show (pbT[44]?).join = some 9 from rfl)).trans e9
        have e10 : us 10 = .int .i64 m := hV 10 (by simp)
        have v10 := (frame_at2 (us := us) hl (show (pbT[45]?).join = some 10 from rfl)).trans e10
        generalize frame pbT a0 us = fr at *
        exact call_ok (f := 87) (args := #[.int .i64 (b - y0), .int .i64 m]) (by go_simp) ((FB.out w').mono fun e w'' h => ⟨_, h.1, hG.below h.2, h.2, rfl⟩)
      · refine step_plain [1, 6, 11] (by kernel_rfl) rfl fun us w' hG hV => ?_
        have e1 : us 1 = .slice B m d := hV 1 (by simp)
        have v1 := (frame_at2 (us := us) hl (show (pbT[36]?).join = some 1 from rfl)).trans e1
        have e6 : us 6 = .int .i64 lo := hV 6 (by simp)
        have v6 := (frame_at2 (us := us) hl (show (pbT[41]?).join = some 6 from rfl)).trans e6
        have e11 : us 11 = .int .i64 hi := hV 11 (by simp)
        have v11 := (frame_at2 (us := us) hl (show (pbT[46]?).join = some 11 from rfl)).trans e11
        have hsc := SC.out w'
        generalize frame pbT a0 us = fr at *
        exact val_ok (v := .slice B1 K d1) (w' := w') (by go_simp) hG (Below.refl _ _) rfl
      · refine step_plain [12] (by kernel_rfl) rfl fun us w' hG hV => ?_
        have e12 : us 12 = .slice B1 K d1 := hV 12 (by simp)
        have v12 := (frame_at2 (us := us) hl (show (pbT[47]?).join = some 12 from rfl)).trans e12
        generalize frame pbT a0 us = fr at *
        exact call_ok (f := 80) (args := #[.slice B1 K d1]) (by go_simp) ((CL.out w' hG).mono fun e w'' ⟨A', c', h1, h2, h3, h4⟩ => ⟨_, h1, hG.below h4, h4, A', c', rfl, h2, h3.less hG.size⟩)
      · refine step_plain [13] (by kernel_rfl) rfl fun us w' hG hV => ?_
        obtain ⟨A13, c13, e13, f13, q13⟩ := (show ∃ A' c', us 13 = .slice A' K c' ∧ K ≤ c' ∧ Own .u8 5 w' (Wr.heap.size) (.slice A' K c') XS from hV 13 (by simp))
        have v13 := (frame_at2 (us := us) hl (show (pbT[48]?).join = some 13 from rfl)).trans e13
        generalize frame pbT a0 us = fr at *
        exact val_ok (v := .slice A13 K c13) (w' := w') (by go_simp) hG (Below.refl _ _) ⟨A13, c13, rfl, f13, q13⟩
      · intro us w7 hG hV
        obtain ⟨A7, c7, e14, f14, q14⟩ := (show ∃ A' c', us 14 = .slice A' K c' ∧ K ≤ c' ∧ Own .u8 5 w7 Wr.heap.size (.slice A' K c') XS from hV 14 (by decide))
        subst ha0
        simp only [frame, pbT, fill]
        rw [e14]
        have P7 := Lib.hid (PR.out.next hG)
        have HO7 := Lib.hid q14
        have kda := pkC.PkC.cell P7.out.row.row (segC HM7.out A n c B m d).da
        have fda := P7.out.row.frozen 31
        have SK := fun (w' : World) => cut_three A7 K c7 f14 w'
        clear hV hl hG k3 k4 k5 k8 k9 e14 f14 q14 KD KA KB FA FB CL SC WA WB PR
        go_upto_region 9 with fail
        have P8 := Lib.hid (P7.out.set_ (s' := s7) 31 (.slice A7 K K) (segV_da HM7.out))
        have HO8 := Lib.hid (HO7.out.keep (w' := w7.setCell ⟨w.heap.size, 31, none⟩ (.slice A7 K K)) fun k h1 h2 => Below.heap_setCell _ _ _ _ (by show k ≠ w.heap.size; have := LT.out; omega))
        generalize (w7.setCell ⟨w.heap.size, 31, none⟩ (.slice A7 K K)) = w8 at *
        clear kda fda P7 HO7 SK
        have ksk := pkC.PkC.cell P8.out.row.row (segC HM7.out A n c A7 K K).sk
        go_upto_region 10 with (first
          | (go_at_call 88; (refine (PL0.out _ P8.out.bel).mono ?_); rintro e w9 ⟨A9, c9, rfl, q9, BB⟩
             have P9 := Lib.hid (P8.out.next BB)
             have HO9 := Lib.hid (HO8.out.below BB)
             have HP9 := Lib.hid q9
             have L89 := Lib.hid (show w.heap.size + 3 < w8.heap.size from P8.out.res.lt)
             have ksk9 := pkC.PkC.cell P9.out.row.row (segC HM7.out A n c A7 K K).sk
             have fsk9 := P9.out.row.frozen 12
             clear BB q9))
        have P10 := Lib.hid (P9.out.set_ (s' := s7) 12 (.slice A9 n c9) segV_sk)
        have HO10 := Lib.hid (HO9.out.keep (w' := w9.setCell ⟨w.heap.size, 12, none⟩ (.slice A9 n c9)) fun k h1 h2 => Below.heap_setCell _ _ _ _ (by show k ≠ w.heap.size; have := LT.out; omega))
        have HP10 := Lib.hid (HP9.out.keep (w' := w9.setCell ⟨w.heap.size, 12, none⟩ (.slice A9 n c9)) fun k h1 h2 => Below.heap_setCell _ _ _ _ (by show k ≠ w.heap.size; have := L89.out; omega))
        generalize (w9.setCell ⟨w.heap.size, 12, none⟩ (.slice A9 n c9)) = u10 at *
        clear ksk ksk9 fsk9 P9 HO9 HP9 PL0 HO8 P8
        have RW := Lib.hid P10.out.row.row
        have ZW := Lib.hid P10.out.res.row
        have FW := Lib.hid P10.out.bel
        have IA := Lib.hid (segC HM7.out A9 n c9 A7 K K).info
        have SZ := Lib.hid (seg_size (s := zSg) (s' := s7) zOpt_ok.lm HM7.out none A9 0 0 n c9 none A7 0 0 K K)
        have OO := Lib.hid (seg_one s7 A9 n c9 A7 K K)
        obtain ⟨CA, hCA⟩ : ∃ C, C = segV s7 A9 n c9 A7 K K := ⟨_, rfl⟩
        rw [← hCA] at RW IA SZ OO
        have HCA := Lib.hid hCA
        clear hCA P10
        go_wp2_with (first
          | (refine wpList_load_row rfl 34 (.tmp 3) rfl w.heap.size rfl _ _ _ _ RW.out Tryd.underlying34 rfl IA.out ?_)
          | (refine wpList_store_row rfl 34 (.tmp 6) (.tmp 62) rfl (w.heap.size + 3) CA rfl rfl _ _ ZW.out IA.out SZ.out OO.out ?_))
        refine bodyPost_ret (v := .agg CA) (Go.results_cell_row Tryd.results53 _ _ (w.heap.size + 3) _ _ _ _ (by rfl) (setRow_heap _ _ _ _ _ _ ZW.out) Tryd.underlying34 rfl IA.out) rfl ?_
        have HO11 := HO10.out.keep (w' := u10.setRow (w.heap.size + 3) CA) fun k h1 h2 => setRow_other _ _ _ _ (by have := LT.out; omega)
        have HP11 := HP10.out.keep (w' := u10.setRow (w.heap.size + 3) CA) fun k h1 h2 => setRow_other _ _ _ _ (by have := L89.out; omega)
        refine ⟨A9, c9, A7, K, K, c7, by rw [HCA.out], by rw [HOP.out]; exact HLN.out, by rw [HOP.out]; exact HP11.less (by have := L89.out; omega), HO11.less (by have := LT.out; omega), Nat.le_refl _, aesC.below_setRow FW.out (by omega) _⟩
  · go_enter Tryd.func53, Tryd.ntmps53
    go_upto_region 2 with fail
    rw [← hW]
    clear hW hzv
    refine with_act fun a0 ha0 => ?_
    have hl : paT.length = a0.tmps.size := by rw [ha0]; rfl
    have k3 : a0.tmps[3]?.getD undef = .pointer (some ⟨(w.heap.size), 0, none⟩) := by rw [ha0]; rfl
    refine wp_region_vals (by kernel_rfl) paT (by kernel_rfl) (by kernel_rfl) hl (fun i => undef) (by rw [ha0]; rfl) (Gr W) (paV (w.heap.size) CP y0 B m d) (gr_drewG _ _) (paV.keep _ _ _ _ _ _) ⟨?_, ?_, ?_, ?_, ?_, ?_, ?_, ?_, trivial⟩ ?_
    · refine step_plain [] (by kernel_rfl) rfl fun us w' hG hV => ?_
      have o3 := (frame_old2 (us := us) (a := a0) (show (paT[3]?).join = none from rfl)).trans k3
      have hg1 := (KR.out w' hG)
      generalize frame paT a0 us = fr at *
      exact load_ok 34 3 rfl ((w.heap.size)) o3 _ _ (0, 0) _ hg1 Tryd.underlying34 rfl IC.out hG rfl
    · refine step_plain [0] (by kernel_rfl) rfl fun us w' hG hV => ?_
      have e0 : us 0 = .agg CP := hV 0 (by simp)
      have v0 := (frame_at2 (us := us) hl (show (paT[12]?).join = some 0 from rfl)).trans e0
      generalize frame paT a0 us = fr at *
      exact call_ok (f := 37) (args := #[.agg CP, .int .u8 2]) (by go_simp) ((NO.out w').mono fun e w'' h => ⟨_, h.1, hG.below h.2, h.2, rfl⟩)
    · refine step_plain [1] (by kernel_rfl) rfl fun us w' hG hV => ?_
      have e1 : us 1 = .int .u32 y0 := hV 1 (by simp)
      have v1 := (frame_at2 (us := us) hl (show (paT[13]?).join = some 1 from rfl)).trans e1
      have hw := WY.out
      generalize frame paT a0 us = fr at *
      exact val_ok (v := .int .i64 y0) (w' := w') (by go_simp) hG (Below.refl _ _) rfl
    · refine step_plain [] (by kernel_rfl) rfl fun us w' hG hV => ?_
      have o3 := (frame_old2 (us := us) (a := a0) (show (paT[3]?).join = none from rfl)).trans k3
      generalize frame paT a0 us = fr at *
      exact val_ok (v := .pointer (some ⟨(w.heap.size), 31, none⟩)) (w' := w') (by go_simp) hG (Below.refl _ _) rfl
    · refine step_plain [3] (by kernel_rfl) rfl fun us w' hG hV => ?_
      have e3 : us 3 = .pointer (some ⟨(w.heap.size), 31, none⟩) := hV 3 (by simp)
      have v3 := (frame_at2 (us := us) hl (show (paT[15]?).join = some 3 from rfl)).trans e3
      have hc := KD.out w' hG
      generalize frame paT a0 us = fr at *
      exact val_ok (v := .slice B m d) (w' := w') (by go_simp) hG (Below.refl _ _) rfl
    · refine step_plain [4] (by kernel_rfl) rfl fun us w' hG hV => ?_
      have e4 : us 4 = .slice B m d := hV 4 (by simp)
      have v4 := (frame_at2 (us := us) hl (show (paT[16]?).join = some 4 from rfl)).trans e4
      generalize frame paT a0 us = fr at *
      exact val_ok (v := .int .i64 m) (w' := w') (by go_simp) hG (Below.refl _ _) rfl
    · refine step_plain [2] (by kernel_rfl) rfl fun us w' hG hV => ?_
      have e2 : us 2 = .int .i64 y0 := hV 2 (by simp)
      have v2 := (frame_at2 (us := us) hl (show (paT[14]?).join = some 2 from rfl)).trans e2
      generalize frame paT a0 us = fr at *
      exact val_ok (v := .int .i64 y0) (w' := w') (by go_simp) hG (Below.refl _ _) rfl
    · refine step_plain [5] (by kernel_rfl) rfl fun us w' hG hV => ?_
      have e5 : us 5 = .int .i64 m := hV 5 (by simp)
      have v5 := (frame_at2 (us := us) hl (show (paT[17]?).join = some 5 from rfl)).trans e5
      generalize frame paT a0 us = fr at *
      exact val_ok (v := .int .i64 m) (w' := w') (by go_simp) hG (Below.refl _ _) rfl
    · intro us w2 hG hV
      have e6 : us 6 = .int .i64 y0 := hV 6 (by decide)
      have e7 : us 7 = .int .i64 m := hV 7 (by decide)
      subst ha0
      simp only [frame, paT, fill]
      rw [e6, e7]
      have P2 := Lib.hid (P1.out.next hG)
      have ka := P2.out.cella
      have kb := P2.out.cellb
      clear hV hl hG k3 e6 e7 KR KD NO IC P1
      go_upto_region 4 with (first
        | (go_at_call 86; (refine (K0.out _ ka kb).mono ?_); rintro e w3 ⟨rfl, BB⟩
           have P3 := Lib.hid (P2.out.next BB)
           have kfl := pkC.PkC.cell P3.out.row.row (segC HMC.out A n c B m d).fl
           have ffl := P3.out.row.frozen 4
           clear BB))
      clear K0 ka kb P2
      go_upto_region 5 with fail
      have P4 := Lib.hid (P3.out.set_ (s' := { s with fl := (bits .andNot .u8 s.fl 2) }) 4 (.int .u8 (bits .andNot .u8 s.fl 2)) (segV_fl _))
      generalize (w3.setCell ⟨w.heap.size, 4, none⟩ (.int .u8 (bits .andNot .u8 s.fl 2))) = w4 at *
      clear kfl ffl P3
      have ka := P4.out.cella
      have kb := P4.out.cellb
      go_upto_region 7 with (first
        | (go_at_call 86; (refine (K1.out _ ka kb).mono ?_); rintro e w5 ⟨rfl, BB⟩
           have P5 := Lib.hid (P4.out.next BB)
           have kfl := pkC.PkC.cell P5.out.row.row (segC (s := { s with fl := (bits .andNot .u8 s.fl 2) }) HMC.out A n c B m d).fl
           have ffl := P5.out.row.frozen 4
           clear BB))
      clear K1 ka kb P4
      have P6 := P5
      generalize w5 = Wr at *
      clear kfl ffl P5
      have PR := Lib.hid (show Pt w Wr a b s7 A n c B m d by rw [← S7.out (bits .andNot .u8 s.fl 2) HFL]; exact P6.out)
      clear P6 S7 HFL hwy WY
      have KD := Lib.hid (fun (w' : World) (h : Gr Wr w') => pkC.PkC.cell (PR.out.next h).row.row (segC HM7.out A n c B m d).da)
      have KA := Lib.hid (fun (w' : World) (h : Gr Wr w') => (PR.out.next h).cella)
      have KB := Lib.hid (fun (w' : World) (h : Gr Wr w') => (PR.out.next h).cellb)
      have CL := Lib.hid (fun (w' : World) (h : Gr Wr w') => CL0.out w' (PR.out.next h).bel)
      have LT := Lib.hid PR.out.res.lt
      clear CL0
      refine with_act fun a0 ha0 => ?_
      have hl : pbT.length = a0.tmps.size := by rw [ha0]; rfl
      have k3 : a0.tmps[3]?.getD undef = .pointer (some ⟨(w.heap.size), 0, none⟩) := by rw [ha0]; rfl
      have k4 : a0.tmps[4]?.getD undef = .pointer (some ⟨(w.heap.size + 1), 0, none⟩) := by rw [ha0]; rfl
      have k5 : a0.tmps[5]?.getD undef = .pointer (some ⟨(w.heap.size + 2), 0, none⟩) := by rw [ha0]; rfl
      have k8 : a0.tmps[8]?.getD undef = .int .i64 y0 := by rw [ha0]; rfl
      have k9 : a0.tmps[9]?.getD undef = .int .i64 m := by rw [ha0]; rfl
      refine wp_region_vals (by kernel_rfl) pbT (by kernel_rfl) (by kernel_rfl) hl (fun i => undef) (by rw [ha0]; rfl) (Gr Wr) (pbV (w.heap.size) (w.heap.size + 1) (w.heap.size + 2) B m d a b y0 lo hi K B1 d1 (Wr.heap.size) XS) (gr_drewG _ _) (pbV.keep _ _ _ _ _ _ _ _ _ _ _ _ _ _ _ _) ⟨?_, ?_, ?_, ?_, ?_, ?_, ?_, ?_, ?_, ?_, ?_, ?_, ?_, ?_, ?_, trivial⟩ ?_
      · refine step_plain [] (by kernel_rfl) rfl fun us w' hG hV => ?_
        have o3 := (frame_old2 (us := us) (a := a0) (show (pbT[3]?).join = none from rfl)).trans k3
        generalize frame pbT a0 us = fr at *
        exact val_ok (v := .pointer (some ⟨(w.heap.size), 31, none⟩)) (w' := w') (by go_simp) hG (Below.refl _ _) rfl
      · refine step_plain [0] (by kernel_rfl) rfl fun us w' hG hV => ?_
        have e0 : us 0 = .pointer (some ⟨(w.heap.size), 31, none⟩) := hV 0 (by simp)
        have v0 := (frame_at2 (us := us) hl (show (pbT[35]?).join = some 0 from rfl)).trans e0
        have hc := KD.out w' hG
        generalize frame pbT a0 us = fr at *
        exact val_ok (v := .slice B m d) (w' := w') (by go_simp) hG (Below.refl _ _) rfl
      · refine step_plain [] (by kernel_rfl) rfl fun us w' hG hV => ?_
        have o4 := (frame_old2 (us := us) (a := a0) (show (pbT[4]?).join = none from rfl)).trans k4
        have hc := KA.out w' hG
        generalize frame pbT a0 us = fr at *
        exact val_ok (v := .int .i64 a) (w' := w') (by go_simp) hG (Below.refl _ _) rfl
      · refine step_plain [] (by kernel_rfl) rfl fun us w' hG hV => ?_
        have o8 := (frame_old2 (us := us) (a := a0) (show (pbT[8]?).join = none from rfl)).trans k8
        generalize frame pbT a0 us = fr at *
        exact val_ok (v := .int .i64 y0) (w' := w') (by go_simp) hG (Below.refl _ _) rfl
      · refine step_plain [2, 3] (by kernel_rfl) rfl fun us w' hG hV => ?_
        have e2 : us 2 = .int .i64 a := hV 2 (by simp)
        have v2 := (frame_at2 (us := us) hl (show (pbT[37]?).join = some 2 from rfl)).trans e2
        have e3 : us 3 = .int .i64 y0 := hV 3 (by simp)
        have v3 := (frame_at2 (us := us) hl (show (pbT[38]?).join = some 3 from rfl)).trans e3
        have hw := WA.out
        generalize frame pbT a0 us = fr at *
        exact val_ok (v := .int .i64 (a - y0)) (w' := w') (by go_simp) hG (Below.refl _ _) rfl
      · refine step_plain [] (by kernel_rfl) rfl fun us w' hG hV => ?_
        have o9 := (frame_old2 (us := us) (a := a0) (show (pbT[9]?).join = none from rfl)).trans k9
        generalize frame pbT a0 us = fr at *
        exact val_ok (v := .int .i64 m) (w' := w') (by go_simp) hG (Below.refl _ _) rfl
      · refine step_plain [4, 5] (by kernel_rfl) rfl fun us w' hG hV => ?_
        have e4 : us 4 = .int .i64 (a - y0) := hV 4 (by simp)
        have v4 := (frame_at2 (us := us) hl (show (pbT[39]?).join = some 4 from rfl)).trans e4
        have e5 : us 5 = .int .i64 m := hV 5 (by simp)
        have v5 := (frame_at2 (us := us) hl (show (pbT[40]?).join = some 5 from rfl)).trans e5
        generalize frame pbT a0 us = fr at *
        exact call_ok (f := 87) (args := #[.int .i64 (a - y0), .int .i64 m]) (by go_simp) ((FA.out w').mono fun e w'' h => ⟨_, h.1, hG.below h.2, h.2, rfl⟩)
      · refine step_plain [] (by kernel_rfl) rfl fun us w' hG hV => ?_
        have o5 := (frame_old2 (us := us) (a := a0) (show (pbT[5]?).join = none from rfl)).trans k5
        have hc := KB.out w' hG
        generalize frame pbT a0 us = fr at *
        exact val_ok (v := .int .i64 b) (w' := w') (by go_simp) hG (Below.refl _ _) rfl
      · refine step_plain [] (by kernel_rfl) rfl fun us w' hG hV => ?_
        have o8 := (frame_old2 (us := us) (a := a0) (show (pbT[8]?).join = none from rfl)).trans k8
        generalize frame pbT a0 us = fr at *
        exact val_ok (v := .int .i64 y0) (w' := w') (by go_simp) hG (Below.refl _ _) rfl
      · refine step_plain [7, 8] (by kernel_rfl) rfl fun us w' hG hV => ?_
        have e7 : us 7 = .int .i64 b := hV 7 (by simp)
        have v7 := (frame_at2 (us := us) hl (show (pbT[42]?).join = some 7 from rfl)).trans e7
        have e8 : us 8 = .int .i64 y0 := hV 8 (by simp)
        have v8 := (frame_at2 (us := us) hl (show (pbT[43]?).join = some 8 from rfl)).trans e8
        have hw := WB.out
        generalize frame pbT a0 us = fr at *
        exact val_ok (v := .int .i64 (b - y0)) (w' := w') (by go_simp) hG (Below.refl _ _) rfl
      · refine step_plain [] (by kernel_rfl) rfl fun us w' hG hV => ?_
        have o9 := (frame_old2 (us := us) (a := a0) (show (pbT[9]?).join = none from rfl)).trans k9
        generalize frame pbT a0 us = fr at *
        exact val_ok (v := .int .i64 m) (w' := w') (by go_simp) hG (Below.refl _ _) rfl
      · refine step_plain [9, 10] (by kernel_rfl) rfl fun us w' hG hV => ?_
        have e9 : us 9 = .int .i64 (b - y0) := hV 9 (by simp)
        have v9 := (frame_at2 (us := us) hl (show (pbT[44]?).join = some 9 from rfl)).trans e9
        have e10 : us 10 = .int .i64 m := hV 10 (by simp)
        have v10 := (frame_at2 (us := us) hl (show (pbT[45]?).join = some 10 from rfl)).trans e10
        generalize frame pbT a0 us = fr at *
        exact call_ok (f := 87) (args := #[.int .i64 (b - y0), .int .i64 m]) (by go_simp) ((FB.out w').mono fun e w'' h => ⟨_, h.1, hG.below h.2, h.2, rfl⟩)
      · refine step_plain [1, 6, 11] (by kernel_rfl) rfl fun us w' hG hV => ?_
        have e1 : us 1 = .slice B m d := hV 1 (by simp)
        have v1 := (frame_at2 (us := us) hl (show (pbT[36]?).join = some 1 from rfl)).trans e1
        have e6 : us 6 = .int .i64 lo := hV 6 (by simp)
        have v6 := (frame_at2 (us := us) hl (show (pbT[41]?).join = some 6 from rfl)).trans e6
        have e11 : us 11 = .int .i64 hi := hV 11 (by simp)
        have v11 := (frame_at2 (us := us) hl (show (pbT[46]?).join = some 11 from rfl)).trans e11
        have hsc := SC.out w'
        generalize frame pbT a0 us = fr at *
        exact val_ok (v := .slice B1 K d1) (w' := w') (by go_simp) hG (Below.refl _ _) rfl
      · refine step_plain [12] (by kernel_rfl) rfl fun us w' hG hV => ?_
        have e12 : us 12 = .slice B1 K d1 := hV 12 (by simp)
        have v12 := (frame_at2 (us := us) hl (show (pbT[47]?).join = some 12 from rfl)).trans e12
        generalize frame pbT a0 us = fr at *
        exact call_ok (f := 80) (args := #[.slice B1 K d1]) (by go_simp) ((CL.out w' hG).mono fun e w'' ⟨A', c', h1, h2, h3, h4⟩ => ⟨_, h1, hG.below h4, h4, A', c', rfl, h2, h3.less hG.size⟩)
      · refine step_plain [13] (by kernel_rfl) rfl fun us w' hG hV => ?_
        obtain ⟨A13, c13, e13, f13, q13⟩ := (show ∃ A' c', us 13 = .slice A' K c' ∧ K ≤ c' ∧ Own .u8 5 w' (Wr.heap.size) (.slice A' K c') XS from hV 13 (by simp))
        have v13 := (frame_at2 (us := us) hl (show (pbT[48]?).join = some 13 from rfl)).trans e13
        generalize frame pbT a0 us = fr at *
        exact val_ok (v := .slice A13 K c13) (w' := w') (by go_simp) hG (Below.refl _ _) ⟨A13, c13, rfl, f13, q13⟩
      · intro us w7 hG hV
        obtain ⟨A7, c7, e14, f14, q14⟩ := (show ∃ A' c', us 14 = .slice A' K c' ∧ K ≤ c' ∧ Own .u8 5 w7 Wr.heap.size (.slice A' K c') XS from hV 14 (by decide))
        subst ha0
        simp only [frame, pbT, fill]
        rw [e14]
        have P7 := Lib.hid (PR.out.next hG)
        have HO7 := Lib.hid q14
        have kda := pkC.PkC.cell P7.out.row.row (segC HM7.out A n c B m d).da
        have fda := P7.out.row.frozen 31
        have SK := fun (w' : World) => cut_three A7 K c7 f14 w'
        clear hV hl hG k3 k4 k5 k8 k9 e14 f14 q14 KD KA KB FA FB CL SC WA WB PR
        go_upto_region 9 with fail
        have P8 := Lib.hid (P7.out.set_ (s' := s7) 31 (.slice A7 K K) (segV_da HM7.out))
        have HO8 := Lib.hid (HO7.out.keep (w' := w7.setCell ⟨w.heap.size, 31, none⟩ (.slice A7 K K)) fun k h1 h2 => Below.heap_setCell _ _ _ _ (by show k ≠ w.heap.size; have := LT.out; omega))
        generalize (w7.setCell ⟨w.heap.size, 31, none⟩ (.slice A7 K K)) = w8 at *
        clear kda fda P7 HO7 SK
        have ksk := pkC.PkC.cell P8.out.row.row (segC HM7.out A n c A7 K K).sk
        go_upto_region 10 with (first
          | (go_at_call 88; (refine (PL0.out _ P8.out.bel).mono ?_); rintro e w9 ⟨A9, c9, rfl, q9, BB⟩
             have P9 := Lib.hid (P8.out.next BB)
             have HO9 := Lib.hid (HO8.out.below BB)
             have HP9 := Lib.hid q9
             have L89 := Lib.hid (show w.heap.size + 3 < w8.heap.size from P8.out.res.lt)
             have ksk9 := pkC.PkC.cell P9.out.row.row (segC HM7.out A n c A7 K K).sk
             have fsk9 := P9.out.row.frozen 12
             clear BB q9))
        have P10 := Lib.hid (P9.out.set_ (s' := s7) 12 (.slice A9 n c9) segV_sk)
        have HO10 := Lib.hid (HO9.out.keep (w' := w9.setCell ⟨w.heap.size, 12, none⟩ (.slice A9 n c9)) fun k h1 h2 => Below.heap_setCell _ _ _ _ (by show k ≠ w.heap.size; have := LT.out; omega))
        have HP10 := Lib.hid (HP9.out.keep (w' := w9.setCell ⟨w.heap.size, 12, none⟩ (.slice A9 n c9)) fun k h1 h2 => Below.heap_setCell _ _ _ _ (by show k ≠ w.heap.size; have := L89.out; omega))
        generalize (w9.setCell ⟨w.heap.size, 12, none⟩ (.slice A9 n c9)) = u10 at *
        clear ksk ksk9 fsk9 P9 HO9 HP9 PL0 HO8 P8
        have RW := Lib.hid P10.out.row.row
        have ZW := Lib.hid P10.out.res.row
        have FW := Lib.hid P10.out.bel
        have IA := Lib.hid (segC HM7.out A9 n c9 A7 K K).info
        have SZ := Lib.hid (seg_size (s := zSg) (s' := s7) zOpt_ok.lm HM7.out none A9 0 0 n c9 none A7 0 0 K K)
        have OO := Lib.hid (seg_one s7 A9 n c9 A7 K K)
        obtain ⟨CA, hCA⟩ : ∃ C, C = segV s7 A9 n c9 A7 K K := ⟨_, rfl⟩
        rw [← hCA] at RW IA SZ OO
        have HCA := Lib.hid hCA
        clear hCA P10
        go_wp2_with (first
          | (refine wpList_load_row rfl 34 (.tmp 3) rfl w.heap.size rfl _ _ _ _ RW.out Tryd.underlying34 rfl IA.out ?_)
          | (refine wpList_store_row rfl 34 (.tmp 6) (.tmp 62) rfl (w.heap.size + 3) CA rfl rfl _ _ ZW.out IA.out SZ.out OO.out ?_))
        refine bodyPost_ret (v := .agg CA) (Go.results_cell_row Tryd.results53 _ _ (w.heap.size + 3) _ _ _ _ (by rfl) (setRow_heap _ _ _ _ _ _ ZW.out) Tryd.underlying34 rfl IA.out) rfl ?_
        have HO11 := HO10.out.keep (w' := u10.setRow (w.heap.size + 3) CA) fun k h1 h2 => setRow_other _ _ _ _ (by have := LT.out; omega)
        have HP11 := HP10.out.keep (w' := u10.setRow (w.heap.size + 3) CA) fun k h1 h2 => setRow_other _ _ _ _ (by have := L89.out; omega)
        refine ⟨A9, c9, A7, K, K, c7, by rw [HCA.out], by rw [HOP.out]; exact HLN.out, by rw [HOP.out]; exact HP11.less (by have := L89.out; omega), HO11.less (by have := LT.out; omega), Nat.le_refl _, aesC.below_setRow FW.out (by omega) _⟩
  · go_enter Tryd.func53, Tryd.ntmps53
    go_upto_region 2 with fail
    rw [← hW]
    clear hW hzv
    refine with_act fun a0 ha0 => ?_
    have hl : paT.length = a0.tmps.size := by rw [ha0]; rfl
    have k3 : a0.tmps[3]?.getD undef = .pointer (some ⟨(w.heap.size), 0, none⟩) := by rw [ha0]; rfl
    refine wp_region_vals (by kernel_rfl) paT (by kernel_rfl) (by kernel_rfl) hl (fun i => undef) (by rw [ha0]; rfl) (Gr W) (paV (w.heap.size) CP y0 B m d) (gr_drewG _ _) (paV.keep _ _ _ _ _ _) ⟨?_, ?_, ?_, ?_, ?_, ?_, ?_, ?_, trivial⟩ ?_
    · refine step_plain [] (by kernel_rfl) rfl fun us w' hG hV => ?_
      have o3 := (frame_old2 (us := us) (a := a0) (show (paT[3]?).join = none from rfl)).trans k3
      have hg1 := (KR.out w' hG)
      generalize frame paT a0 us = fr at *
      exact load_ok 34 3 rfl ((w.heap.size)) o3 _ _ (0, 0) _ hg1 Tryd.underlying34 rfl IC.out hG rfl
    · refine step_plain [0] (by kernel_rfl) rfl fun us w' hG hV => ?_
      have e0 : us 0 = .agg CP := hV 0 (by simp)
      have v0 := (frame_at2 (us := us) hl (show (paT[12]?).join = some 0 from rfl)).trans e0
      generalize frame paT a0 us = fr at *
      exact call_ok (f := 37) (args := #[.agg CP, .int .u8 2]) (by go_simp) ((NO.out w').mono fun e w'' h => ⟨_, h.1, hG.below h.2, h.2, rfl⟩)
    · refine step_plain [1] (by kernel_rfl) rfl fun us w' hG hV => ?_
      have e1 : us 1 = .int .u32 y0 := hV 1 (by simp)
      have v1 := (frame_at2 (us := us) hl (show (paT[13]?).join = some 1 from rfl)).trans e1
      have hw := WY.out
      generalize frame paT a0 us = fr at *
      exact val_ok (v := .int .i64 y0) (w' := w') (by go_simp) hG (Below.refl _ _) rfl
    · refine step_plain [] (by kernel_rfl) rfl fun us w' hG hV => ?_
      have o3 := (frame_old2 (us := us) (a := a0) (show (paT[3]?).join = none from rfl)).trans k3
      generalize frame paT a0 us = fr at *
      exact val_ok (v := .pointer (some ⟨(w.heap.size), 31, none⟩)) (w' := w') (by go_simp) hG (Below.refl _ _) rfl
    · refine step_plain [3] (by kernel_rfl) rfl fun us w' hG hV => ?_
      have e3 : us 3 = .pointer (some ⟨(w.heap.size), 31, none⟩) := hV 3 (by simp)
      have v3 := (frame_at2 (us := us) hl (show (paT[15]?).join = some 3 from rfl)).trans e3
      have hc := KD.out w' hG
      generalize frame paT a0 us = fr at *
      exact val_ok (v := .slice B m d) (w' := w') (by go_simp) hG (Below.refl _ _) rfl
    · refine step_plain [4] (by kernel_rfl) rfl fun us w' hG hV => ?_
      have e4 : us 4 = .slice B m d := hV 4 (by simp)
      have v4 := (frame_at2 (us := us) hl (show (paT[16]?).join = some 4 from rfl)).trans e4
      generalize frame paT a0 us = fr at *
      exact val_ok (v := .int .i64 m) (w' := w') (by go_simp) hG (Below.refl _ _) rfl
    · refine step_plain [2] (by kernel_rfl) rfl fun us w' hG hV => ?_
      have e2 : us 2 = .int .i64 y0 := hV 2 (by simp)
      have v2 := (frame_at2 (us := us) hl (show (paT[14]?).join = some 2 from rfl)).trans e2
      generalize frame paT a0 us = fr at *
      exact val_ok (v := .int .i64 y0) (w' := w') (by go_simp) hG (Below.refl _ _) rfl
    · refine step_plain [5] (by kernel_rfl) rfl fun us w' hG hV => ?_
      have e5 : us 5 = .int .i64 m := hV 5 (by simp)
      have v5 := (frame_at2 (us := us) hl (show (paT[17]?).join = some 5 from rfl)).trans e5
      generalize frame paT a0 us = fr at *
      exact val_ok (v := .int .i64 m) (w' := w') (by go_simp) hG (Below.refl _ _) rfl
    · intro us w2 hG hV
      have e6 : us 6 = .int .i64 y0 := hV 6 (by decide)
      have e7 : us 7 = .int .i64 m := hV 7 (by decide)
      subst ha0
      simp only [frame, paT, fill]
      rw [e6, e7]
      have P2 := Lib.hid (P1.out.next hG)
      have ka := P2.out.cella
      have kb := P2.out.cellb
      clear hV hl hG k3 e6 e7 KR KD NO IC P1
      go_upto_region 5 with (first
        | (go_at_call 86; (refine (K0.out _ ka kb).mono ?_); rintro e w3 ⟨rfl, BB⟩
           have P3 := Lib.hid (P2.out.next BB)
           have kfl := pkC.PkC.cell P3.out.row.row (segC HMC.out A n c B m d).fl
           have ffl := P3.out.row.frozen 4
           clear BB))
      clear K0 ka kb P2
      have P4 := P3
      clear kfl ffl P3
      have ka := P4.out.cella
      have kb := P4.out.cellb
      go_upto_region 6 with (first
        | (go_at_call 86; (refine (K1.out _ ka kb).mono ?_); rintro e w5 ⟨rfl, BB⟩
           have P5 := Lib.hid (P4.out.next BB)
           have kfl := pkC.PkC.cell P5.out.row.row (segC (s := { s with fl := s.fl }) HMC.out A n c B m d).fl
           have ffl := P5.out.row.frozen 4
           clear BB))
      clear K1 ka kb P4
      go_upto_region 7 with fail
      have P6 := Lib.hid (P5.out.set_ (s' := { s with fl := (bits .andNot .u8 s.fl 1) }) 4 (.int .u8 (bits .andNot .u8 s.fl 1)) (segV_fl _))
      generalize (w5.setCell ⟨w.heap.size, 4, none⟩ (.int .u8 (bits .andNot .u8 s.fl 1))) = Wr at *
      clear kfl ffl P5
      have PR := Lib.hid (show Pt w Wr a b s7 A n c B m d by rw [← S7.out (bits .andNot .u8 s.fl 1) HFL]; exact P6.out)
      clear P6 S7 HFL hwy WY
      have KD := Lib.hid (fun (w' : World) (h : Gr Wr w') => pkC.PkC.cell (PR.out.next h).row.row (segC HM7.out A n c B m d).da)
      have KA := Lib.hid (fun (w' : World) (h : Gr Wr w') => (PR.out.next h).cella)
      have KB := Lib.hid (fun (w' : World) (h : Gr Wr w') => (PR.out.next h).cellb)
      have CL := Lib.hid (fun (w' : World) (h : Gr Wr w') => CL0.out w' (PR.out.next h).bel)
      have LT := Lib.hid PR.out.res.lt
      clear CL0
      refine with_act fun a0 ha0 => ?_
      have hl : pbT.length = a0.tmps.size := by rw [ha0]; rfl
      have k3 : a0.tmps[3]?.getD undef = .pointer (some ⟨(w.heap.size), 0, none⟩) := by rw [ha0]; rfl
      have k4 : a0.tmps[4]?.getD undef = .pointer (some ⟨(w.heap.size + 1), 0, none⟩) := by rw [ha0]; rfl
      have k5 : a0.tmps[5]?.getD undef = .pointer (some ⟨(w.heap.size + 2), 0, none⟩) := by rw [ha0]; rfl
      have k8 : a0.tmps[8]?.getD undef = .int .i64 y0 := by rw [ha0]; rfl
      have k9 : a0.tmps[9]?.getD undef = .int .i64 m := by rw [ha0]; rfl
      refine wp_region_vals (by kernel_rfl) pbT (by kernel_rfl) (by kernel_rfl) hl (fun i => undef) (by rw [ha0]; rfl) (Gr Wr) (pbV (w.heap.size) (w.heap.size + 1) (w.heap.size + 2) B m d a b y0 lo hi K B1 d1 (Wr.heap.size) XS) (gr_drewG _ _) (pbV.keep _ _ _ _ _ _ _ _ _ _ _ _ _ _ _ _) ⟨?_, ?_, ?_, ?_, ?_, ?_, ?_, ?_, ?_, ?_, ?_, ?_, ?_, ?_, ?_, trivial⟩ ?_
      · refine step_plain [] (by kernel_rfl) rfl fun us w' hG hV => ?_
        have o3 := (frame_old2 (us := us) (a := a0) (show (pbT[3]?).join = none from rfl)).trans k3
        generalize frame pbT a0 us = fr at *
        exact val_ok (v := .pointer (some ⟨(w.heap.size), 31, none⟩)) (w' := w') (by go_simp) hG (Below.refl _ _) rfl
      · refine step_plain [0] (by kernel_rfl) rfl fun us w' hG hV => ?_
        have e0 : us 0 = .pointer (some ⟨(w.heap.size), 31, none⟩) := hV 0 (by simp)
        have v0 := (frame_at2 (us := us) hl (show (pbT[35]?).join = some 0 from rfl)).trans e0
        have hc := KD.out w' hG
        generalize frame pbT a0 us = fr at *
        exact val_ok (v := .slice B m d) (w' := w') (by go_simp) hG (Below.refl _ _) rfl
      · refine step_plain [] (by kernel_rfl) rfl fun us w' hG hV => ?_
        have o4 := (frame_old2 (us := us) (a := a0) (show (pbT[4]?).join = none from rfl)).trans k4
        have hc := KA.out w' hG
        generalize frame pbT a0 us = fr at *
        exact val_ok (v := .int .i64 a) (w' := w') (by go_simp) hG (Below.refl _ _) rfl
      · refine step_plain [] (by kernel_rfl) rfl fun us w' hG hV => ?_
        have o8 := (frame_old2 (us := us) (a := a0) (show (pbT[8]?).join = none from rfl)).trans k8
        generalize frame pbT a0 us = fr at *
        exact val_ok (v := .int .i64 y0) (w' := w') (by go_simp) hG (Below.refl _ _) rfl
      · refine step_plain [2, 3] (by kernel_rfl) rfl fun us w' hG hV => ?_
        have e2 : us 2 = .int .i64 a := hV 2 (by simp)
        have v2 := (frame_at2 (us := us) hl (show (pbT[37]?).join = some 2 from rfl)).trans e2
        have e3 : us 3 = .int .i64 y0 := hV 3 (by simp)
        have v3 := (frame_at2 (us := us) hl (show (pbT[38]?).join = some 3 from rfl)).trans e3
        have hw := WA.out
        generalize frame pbT a0 us = fr at *
        exact val_ok (v := .int .i64 (a - y0)) (w' := w') (by go_simp) hG (Below.refl _ _) rfl
      · refine step_plain [] (by kernel_rfl) rfl fun us w' hG hV => ?_
        have o9 := (frame_old2 (us := us) (a := a0) (show (pbT[9]?).join = none from rfl)).trans k9
        generalize frame pbT a0 us = fr at *
        exact val_ok (v := .int .i64 m) (w' := w') (by go_simp) hG (Below.refl _ _) rfl
      · refine step_plain [4, 5] (by kernel_rfl) rfl fun us w' hG hV => ?_
        have e4 : us 4 = .int .i64 (a - y0) := hV 4 (by simp)
        have v4 := (frame_at2 (us := us) hl (show (pbT[39]?).join = some 4 from rfl)).trans e4
        have e5 : us 5 = .int .i64 m := hV 5 (by simp)
        have v5 := (frame_at2 (us := us) hl (show (pbT[40]?).join = some 5 from rfl)).trans e5
        generalize frame pbT a0 us = fr at *
        exact call_ok (f := 87) (args := #[.int .i64 (a - y0), .int .i64 m]) (by go_simp) ((FA.out w').mono fun e w'' h => ⟨_, h.1, hG.below h.2, h.2, rfl⟩)
      · refine step_plain [] (by kernel_rfl) rfl fun us w' hG hV => ?_
        have o5 := (frame_old2 (us := us) (a := a0) (show (pbT[5]?).join = none from rfl)).trans k5
        have hc := KB.out w' hG
        generalize frame pbT a0 us = fr at *
        exact val_ok (v := .int .i64 b) (w' := w') (by go_simp) hG (Below.refl _ _) rfl
      · refine step_plain [] (by kernel_rfl) rfl fun us w' hG hV => ?_
        have o8 := (frame_old2 (us := us) (a := a0) (show (pbT[8]?).join = none from rfl)).trans k8
        generalize frame pbT a0 us = fr at *
        exact val_ok (v := .int .i64 y0) (w' := w') (by go_simp) hG (Below.refl _ _) rfl
      · refine step_plain [7, 8] (by kernel_rfl) rfl fun us w' hG hV => ?_
        have e7 : us 7 = .int .i64 b := hV 7 (by simp)
        have v7 := (frame_at2 (us := us) hl (show (pbT[42]?).join = some 7 from rfl)).trans e7
        have e8 : us 8 = .int .i64 y0 := hV 8 (by simp)
        have v8 := (frame_at2 (us := us) hl (show (pbT[43]?).join = some 8 from rfl)).trans e8
        have hw := WB.out
        generalize frame pbT a0 us = fr at *
        exact val_ok (v := .int .i64 (b - y0)) (w' := w') (by go_simp) hG (Below.refl _ _) rfl
      · refine step_plain [] (by kernel_rfl) rfl fun us w' hG hV => ?_
        have o9 := (frame_old2 (us := us) (a := a0) (show (pbT[9]?).join = none from rfl)).trans k9
        generalize frame pbT a0 us = fr at *
        exact val_ok (v := .int .i64 m) (w' := w') (by go_simp) hG (Below.refl _ _) rfl
      · refine step_plain [9, 10] (by kernel_rfl) rfl fun us w' hG hV => ?_
        have e9 : us 9 = .int .i64 (b - y0) := hV 9 (by simp)
        have v9 := (frame_at2 (us := us) hl (show (pbT[44]?).join = some 9 from rfl)).trans e9
        have e10 : us 10 = .int .i64 m := hV 10 (by simp)
        have v10 := (frame_at2 (us := us) hl (show (pbT[45]?).join = some 10 from rfl)).trans e10
        generalize frame pbT a0 us = fr at *
        exact call_ok (f := 87) (args := #[.int .i64 (b - y0), .int .i64 m]) (by go_simp) ((FB.out w').mono fun e w'' h => ⟨_, h.1, hG.below h.2, h.2, rfl⟩)
      · refine step_plain [1, 6, 11] (by kernel_rfl) rfl fun us w' hG hV => ?_
        have e1 : us 1 = .slice B m d := hV 1 (by simp)
        have v1 := (frame_at2 (us := us) hl (show (pbT[36]?).join = some 1 from rfl)).trans e1
        have e6 : us 6 = .int .i64 lo := hV 6 (by simp)
        have v6 := (frame_at2 (us := us) hl (show (pbT[41]?).join = some 6 from rfl)).trans e6
        have e11 : us 11 = .int .i64 hi := hV 11 (by simp)
        have v11 := (frame_at2 (us := us) hl (show (pbT[46]?).join = some 11 from rfl)).trans e11
        have hsc := SC.out w'
        generalize frame pbT a0 us = fr at *
        exact val_ok (v := .slice B1 K d1) (w' := w') (by go_simp) hG (Below.refl _ _) rfl
      · refine step_plain [12] (by kernel_rfl) rfl fun us w' hG hV => ?_
        have e12 : us 12 = .slice B1 K d1 := hV 12 (by simp)
        have v12 := (frame_at2 (us := us) hl (show (pbT[47]?).join = some 12 from rfl)).trans e12
        generalize frame pbT a0 us = fr at *
        exact call_ok (f := 80) (args := #[.slice B1 K d1]) (by go_simp) ((CL.out w' hG).mono fun e w'' ⟨A', c', h1, h2, h3, h4⟩ => ⟨_, h1, hG.below h4, h4, A', c', rfl, h2, h3.less hG.size⟩)
      · refine step_plain [13] (by kernel_rfl) rfl fun us w' hG hV => ?_
        obtain ⟨A13, c13, e13, f13, q13⟩ := (show ∃ A' c', us 13 = .slice A' K c' ∧ K ≤ c' ∧ Own .u8 5 w' (Wr.heap.size) (.slice A' K c') XS from hV 13 (by simp))
        have v13 := (frame_at2 (us := us) hl (show (pbT[48]?).join = some 13 from rfl)).trans e13
        generalize frame pbT a0 us = fr at *
        exact val_ok (v := .slice A13 K c13) (w' := w') (by go_simp) hG (Below.refl _ _) ⟨A13, c13, rfl, f13, q13⟩
      · intro us w7 hG hV
        obtain ⟨A7, c7, e14, f14, q14⟩ := (show ∃ A' c', us 14 = .slice A' K c' ∧ K ≤ c' ∧ Own .u8 5 w7 Wr.heap.size (.slice A' K c') XS from hV 14 (by decide))
        subst ha0
        simp only [frame, pbT, fill]
        rw [e14]
        have P7 := Lib.hid (PR.out.next hG)
        have HO7 := Lib.hid q14
        have kda := pkC.PkC.cell P7.out.row.row (segC HM7.out A n c B m d).da
        have fda := P7.out.row.frozen 31
        have SK := fun (w' : World) => cut_three A7 K c7 f14 w'
        clear hV hl hG k3 k4 k5 k8 k9 e14 f14 q14 KD KA KB FA FB CL SC WA WB PR
        go_upto_region 9 with fail
        have P8 := Lib.hid (P7.out.set_ (s' := s7) 31 (.slice A7 K K) (segV_da HM7.out))
        have HO8 := Lib.hid (HO7.out.keep (w' := w7.setCell ⟨w.heap.size, 31, none⟩ (.slice A7 K K)) fun k h1 h2 => Below.heap_setCell _ _ _ _ (by show k ≠ w.heap.size; have := LT.out; omega))
        generalize (w7.setCell ⟨w.heap.size, 31, none⟩ (.slice A7 K K)) = w8 at *
        clear kda fda P7 HO7 SK
        have ksk := pkC.PkC.cell P8.out.row.row (segC HM7.out A n c A7 K K).sk
        go_upto_region 10 with (first
          | (go_at_call 88; (refine (PL0.out _ P8.out.bel).mono ?_); rintro e w9 ⟨A9, c9, rfl, q9, BB⟩
             have P9 := Lib.hid (P8.out.next BB)
             have HO9 := Lib.hid (HO8.out.below BB)
             have HP9 := Lib.hid q9
             have L89 := Lib.hid (show w.heap.size + 3 < w8.heap.size from P8.out.res.lt)
             have ksk9 := pkC.PkC.cell P9.out.row.row (segC HM7.out A n c A7 K K).sk
             have fsk9 := P9.out.row.frozen 12
             clear BB q9))
        have P10 := Lib.hid (P9.out.set_ (s' := s7) 12 (.slice A9 n c9) segV_sk)
        have HO10 := Lib.hid (HO9.out.keep (w' := w9.setCell ⟨w.heap.size, 12, none⟩ (.slice A9 n c9)) fun k h1 h2 => Below.heap_setCell _ _ _ _ (by show k ≠ w.heap.size; have := LT.out; omega))
        have HP10 := Lib.hid (HP9.out.keep (w' := w9.setCell ⟨w.heap.size, 12, none⟩ (.slice A9 n c9)) fun k h1 h2 => Below.heap_setCell _ _ _ _ (by show k ≠ w.heap.size; have := L89.out; omega))
        generalize (w9.setCell ⟨w.heap.size, 12, none⟩ (.slice A9 n c9)) = u10 at *
        clear ksk ksk9 fsk9 P9 HO9 HP9 PL0 HO8 P8
        have RW := Lib.hid P10.out.row.row
        have ZW := Lib.hid P10.out.res.row
        have FW := Lib.hid P10.out.bel
        have IA := Lib.hid (segC HM7.out A9 n c9 A7 K K).info
        have SZ := Lib.hid (seg_size (s := zSg) (s' := s7) zOpt_ok.lm HM7.out none A9 0 0 n c9 none A7 0 0 K K)
        have OO := Lib.hid (seg_one s7 A9 n c9 A7 K K)
        obtain ⟨CA, hCA⟩ : ∃ C, C = segV s7 A9 n c9 A7 K K := ⟨_, rfl⟩
        rw [← hCA] at RW IA SZ OO
        have HCA := Lib.hid hCA
        clear hCA P10
        go_wp2_with (first
          | (refine wpList_load_row rfl 34 (.tmp 3) rfl w.heap.size rfl _ _ _ _ RW.out Tryd.underlying34 rfl IA.out ?_)
          | (refine wpList_store_row rfl 34 (.tmp 6) (.tmp 62) rfl (w.heap.size + 3) CA rfl rfl _ _ ZW.out IA.out SZ.out OO.out ?_))
        refine bodyPost_ret (v := .agg CA) (Go.results_cell_row Tryd.results53 _ _ (w.heap.size + 3) _ _ _ _ (by rfl) (setRow_heap _ _ _ _ _ _ ZW.out) Tryd.underlying34 rfl IA.out) rfl ?_
        have HO11 := HO10.out.keep (w' := u10.setRow (w.heap.size + 3) CA) fun k h1 h2 => setRow_other _ _ _ _ (by have := LT.out; omega)
        have HP11 := HP10.out.keep (w' := u10.setRow (w.heap.size + 3) CA) fun k h1 h2 => setRow_other _ _ _ _ (by have := L89.out; omega)
        refine ⟨A9, c9, A7, K, K, c7, by rw [HCA.out], by rw [HOP.out]; exact HLN.out, by rw [HOP.out]; exact HP11.less (by have := L89.out; omega), HO11.less (by have := LT.out; omega), Nat.le_refl _, aesC.below_setRow FW.out (by omega) _⟩
  · go_enter Tryd.func53, Tryd.ntmps53
    go_upto_region 2 with fail
    rw [← hW]
    clear hW hzv
    refine with_act fun a0 ha0 => ?_
    have hl : paT.length = a0.tmps.size := by rw [ha0]; rfl
    have k3 : a0.tmps[3]?.getD undef = .pointer (some ⟨(w.heap.size), 0, none⟩) := by rw [ha0]; rfl
    refine wp_region_vals (by kernel_rfl) paT (by kernel_rfl) (by kernel_rfl) hl (fun i => undef) (by rw [ha0]; rfl) (Gr W) (paV (w.heap.size) CP y0 B m d) (gr_drewG _ _) (paV.keep _ _ _ _ _ _) ⟨?_, ?_, ?_, ?_, ?_, ?_, ?_, ?_, trivial⟩ ?_
    · refine step_plain [] (by kernel_rfl) rfl fun us w' hG hV => ?_
      have o3 := (frame_old2 (us := us) (a := a0) (show (paT[3]?).join = none from rfl)).trans k3
      have hg1 := (KR.out w' hG)
      generalize frame paT a0 us = fr at *
      exact load_ok 34 3 rfl ((w.heap.size)) o3 _ _ (0, 0) _ hg1 Tryd.underlying34 rfl IC.out hG rfl
    · refine step_plain [0] (by kernel_rfl) rfl fun us w' hG hV => ?_
      have e0 : us 0 = .agg CP := hV 0 (by simp)
      have v0 := (frame_at2 (us := us) hl (show (paT[12]?).join = some 0 from rfl)).trans e0
      generalize frame paT a0 us = fr at *
      exact call_ok (f := 37) (args := #[.agg CP, .int .u8 2]) (by go_simp) ((NO.out w').mono fun e w'' h => ⟨_, h.1, hG.below h.2, h.2, rfl⟩)
    · refine step_plain [1] (by kernel_rfl) rfl fun us w' hG hV => ?_
      have e1 : us 1 = .int .u32 y0 := hV 1 (by simp)
      have v1 := (frame_at2 (us := us) hl (show (paT[13]?).join = some 1 from rfl)).trans e1
      have hw := WY.out
      generalize frame paT a0 us = fr at *
      exact val_ok (v := .int .i64 y0) (w' := w') (by go_simp) hG (Below.refl _ _) rfl
    · refine step_plain [] (by kernel_rfl) rfl fun us w' hG hV => ?_
      have o3 := (frame_old2 (us := us) (a := a0) (show (paT[3]?).join = none from rfl)).trans k3
      generalize frame paT a0 us = fr at *
      exact val_ok (v := .pointer (some ⟨(w.heap.size), 31, none⟩)) (w' := w') (by go_simp) hG (Below.refl _ _) rfl
    · refine step_plain [3] (by kernel_rfl) rfl fun us w' hG hV => ?_
      have e3 : us 3 = .pointer (some ⟨(w.heap.size), 31, none⟩) := hV 3 (by simp)
      have v3 := (frame_at2 (us := us) hl (show (paT[15]?).join = some 3 from rfl)).trans e3
      have hc := KD.out w' hG
      generalize frame paT a0 us = fr at *
      exact val_ok (v := .slice B m d) (w' := w') (by go_simp) hG (Below.refl _ _) rfl
    · refine step_plain [4] (by kernel_rfl) rfl fun us w' hG hV => ?_
      have e4 : us 4 = .slice B m d := hV 4 (by simp)
      have v4 := (frame_at2 (us := us) hl (show (paT[16]?).join = some 4 from rfl)).trans e4
      generalize frame paT a0 us = fr at *
      exact val_ok (v := .int .i64 m) (w' := w') (by go_simp) hG (Below.refl _ _) rfl
    · refine step_plain [2] (by kernel_rfl) rfl fun us w' hG hV => ?_
      have e2 : us 2 = .int .i64 y0 := hV 2 (by simp)
      have v2 := (frame_at2 (us := us) hl (show (paT[14]?).join = some 2 from rfl)).trans e2
      generalize frame paT a0 us = fr at *
      exact val_ok (v := .int .i64 y0) (w' := w') (by go_simp) hG (Below.refl _ _) rfl
    · refine step_plain [5] (by kernel_rfl) rfl fun us w' hG hV => ?_
      have e5 : us 5 = .int .i64 m := hV 5 (by simp)
      have v5 := (frame_at2 (us := us) hl (show (paT[17]?).join = some 5 from rfl)).trans e5
      generalize frame paT a0 us = fr at *
      exact val_ok (v := .int .i64 m) (w' := w') (by go_simp) hG (Below.refl _ _) rfl
    · intro us w2 hG hV
      have e6 : us 6 = .int .i64 y0 := hV 6 (by decide)
      have e7 : us 7 = .int .i64 m := hV 7 (by decide)
      subst ha0
      simp only [frame, paT, fill]
      rw [e6, e7]
      have P2 := Lib.hid (P1.out.next hG)
      have ka := P2.out.cella
      have kb := P2.out.cellb
      clear hV hl hG k3 e6 e7 KR KD NO IC P1
      go_upto_region 5 with (first
        | (go_at_call 86; (refine (K0.out _ ka kb).mono ?_); rintro e w3 ⟨rfl, BB⟩
           have P3 := Lib.hid (P2.out.next BB)
           have kfl := pkC.PkC.cell P3.out.row.row (segC HMC.out A n c B m d).fl
           have ffl := P3.out.row.frozen 4
           clear BB))
      clear K0 ka kb P2
      have P4 := P3
      clear kfl ffl P3
      have ka := P4.out.cella
      have kb := P4.out.cellb
      go_upto_region 7 with (first
        | (go_at_call 86; (refine (K1.out _ ka kb).mono ?_); rintro e w5 ⟨rfl, BB⟩
           have P5 := Lib.hid (P4.out.next BB)
           have kfl := pkC.PkC.cell P5.out.row.row (segC (s := { s with fl := s.fl }) HMC.out A n c B m d).fl
           have ffl := P5.out.row.frozen 4
           clear BB))
      clear K1 ka kb P4
      have P6 := P5
      generalize w5 = Wr at *
      clear kfl ffl P5
      have PR := Lib.hid (show Pt w Wr a b s7 A n c B m d by rw [← S7.out s.fl HFL]; exact P6.out)
      clear P6 S7 HFL hwy WY
      have KD := Lib.hid (fun (w' : World) (h : Gr Wr w') => pkC.PkC.cell (PR.out.next h).row.row (segC HM7.out A n c B m d).da)
      have KA := Lib.hid (fun (w' : World) (h : Gr Wr w') => (PR.out.next h).cella)
      have KB := Lib.hid (fun (w' : World) (h : Gr Wr w') => (PR.out.next h).cellb)
      have CL := Lib.hid (fun (w' : World) (h : Gr Wr w') => CL0.out w' (PR.out.next h).bel)
      have LT := Lib.hid PR.out.res.lt
      clear CL0
      refine with_act fun a0 ha0 => ?_
      have hl : pbT.length = a0.tmps.size := by rw [ha0]; rfl
      have k3 : a0.tmps[3]?.getD undef = .pointer (some ⟨(w.heap.size), 0, none⟩) := by rw [ha0]; rfl
      have k4 : a0.tmps[4]?.getD undef = .pointer (some ⟨(w.heap.size + 1), 0, none⟩) := by rw [ha0]; rfl
      have k5 : a0.tmps[5]?.getD undef = .pointer (some ⟨(w.heap.size + 2), 0, none⟩) := by rw [ha0]; rfl
      have k8 : a0.tmps[8]?.getD undef = .int .i64 y0 := by rw [ha0]; rfl
      have k9 : a0.tmps[9]?.getD undef = .int .i64 m := by rw [ha0]; rfl
      refine wp_region_vals (by kernel_rfl) pbT (by kernel_rfl) (by kernel_rfl) hl (fun i => undef) (by rw [ha0]; rfl) (Gr Wr) (pbV (w.heap.size) (w.heap.size + 1) (w.heap.size + 2) B m d a b y0 lo hi K B1 d1 (Wr.heap.size) XS) (gr_drewG _ _) (pbV.keep _ _ _ _ _ _ _ _ _ _ _ _ _ _ _ _) ⟨?_, ?_, ?_, ?_, ?_, ?_, ?_, ?_, ?_, ?_, ?_, ?_, ?_, ?_, ?_, trivial⟩ ?_
      · refine step_plain [] (by kernel_rfl) rfl fun us w' hG hV => ?_
        have o3 := (frame_old2 (us := us) (a := a0) (show (pbT[3]?).join = none from rfl)).trans k3
        generalize frame pbT a0 us = fr at *
        exact val_ok (v := .pointer (some ⟨(w.heap.size), 31, none⟩)) (w' := w') (by go_simp) hG (Below.refl _ _) rfl
      · refine step_plain [0] (by kernel_rfl) rfl fun us w' hG hV => ?_
        have e0 : us 0 = .pointer (some ⟨(w.heap.size), 31, none⟩) := hV 0 (by simp)
        have v0 := (frame_at2 (us := us) hl (show (pbT[35]?).join = some 0 from rfl)).trans e0
        have hc := KD.out w' hG
        generalize frame pbT a0 us = fr at *
        exact val_ok (v := .slice B m d) (w' := w') (by go_simp) hG (Below.refl _ _) rfl
      · refine step_plain [] (by kernel_rfl) rfl fun us w' hG hV => ?_
        have o4 := (frame_old2 (us := us) (a := a0) (show (pbT[4]?).join = none from rfl)).trans k4
        have hc := KA.out w' hG
        generalize frame pbT a0 us = fr at *
        exact val_ok (v := .int .i64 a) (w' := w') (by go_simp) hG (Below.refl _ _) rfl
      · refine step_plain [] (by kernel_rfl) rfl fun us w' hG hV => ?_
        have o8 := (frame_old2 (us := us) (a := a0) (show (pbT[8]?).join = none from rfl)).trans k8
        generalize frame pbT a0 us = fr at *
        exact val_ok (v := .int .i64 y0) (w' := w') (by go_simp) hG (Below.refl _ _) rfl
      · refine step_plain [2, 3] (by kernel_rfl) rfl fun us w' hG hV => ?_
        have e2 : us 2 = .int .i64 a := hV 2 (by simp)
        have v2 := (frame_at2 (us := us) hl (show (pbT[37]?).join = some 2 from rfl)).trans e2
        have e3 : us 3 = .int .i64 y0 := hV 3 (by simp)
        have v3 := (frame_at2 (us := us) hl (show (pbT[38]?).join = some 3 from rfl)).trans e3
        have hw := WA.out
        generalize frame pbT a0 us = fr at *
        exact val_ok (v := .int .i64 (a - y0)) (w' := w') (by go_simp) hG (Below.refl _ _) rfl
      · refine step_plain [] (by kernel_rfl) rfl fun us w' hG hV => ?_
        have o9 := (frame_old2 (us := us) (a := a0) (show (pbT[9]?).join = none from rfl)).trans k9
        generalize frame pbT a0 us = fr at *
        exact val_ok (v := .int .i64 m) (w' := w') (by go_simp) hG (Below.refl _ _) rfl
      · refine step_plain [4, 5] (by kernel_rfl) rfl fun us w' hG hV => ?_
        have e4 : us 4 = .int .i64 (a - y0) := hV 4 (by simp)
        have v4 := (frame_at2 (us := us) hl (show (pbT[39]?).join = some 4 from rfl)).trans e4
        have e5 : us 5 = .int .i64 m := hV 5 (by simp)
        have v5 := (frame_at2 (us := us) hl (show (pbT[40]?).join = some 5 from rfl)).trans e5
        generalize frame pbT a0 us = fr at *
        exact call_ok (f := 87) (args := #[.int .i64 (a - y0), .int .i64 m]) (by go_simp) ((FA.out w').mono fun e w'' h => ⟨_, h.1, hG.below h.2, h.2, rfl⟩)
      · refine step_plain [] (by kernel_rfl) rfl fun us w' hG hV => ?_
        have o5 := (frame_old2 (us := us) (a := a0) (show (pbT[5]?).join = none from rfl)).trans k5
        have hc := KB.out w' hG
        generalize frame pbT a0 us = fr at *
        exact val_ok (v := .int .i64 b) (w' := w') (by go_simp) hG (Below.refl _ _) rfl
      · refine step_plain [] (by kernel_rfl) rfl fun us w' hG hV => ?_
        have o8 := (frame_old2 (us := us) (a := a0) (show (pbT[8]?).join = none from rfl)).trans k8
        generalize frame pbT a0 us = fr at *
        exact val_ok (v := .int .i64 y0) (w' := w') (by go_simp) hG (Below.refl _ _) rfl
      · refine step_plain [7, 8] (by kernel_rfl) rfl fun us w' hG hV => ?_
        have e7 : us 7 = .int .i64 b := hV 7 (by simp)
        have v7 := (frame_at2 (us := us) hl (show (pbT[42]?).join = some 7 from rfl)).trans e7
        have e8 : us 8 = .int .i64 y0 := hV 8 (by simp)
        have v8 := (frame_at2 (us := us) hl (show (pbT[43]?).join = some 8 from rfl)).trans e8
        have hw := WB.out
        generalize frame pbT a0 us = fr at *
        exact val_ok (v := .int .i64 (b - y0)) (w' := w') (by go_simp) hG (Below.refl _ _) rfl
      · refine step_plain [] (by kernel_rfl) rfl fun us w' hG hV => ?_
        have o9 := (frame_old2 (us := us) (a := a0) (show (pbT[9]?).join = none from rfl)).trans k9
        generalize frame pbT a0 us = fr at *
        exact val_ok (v := .int .i64 m) (w' := w') (by go_simp) hG (Below.refl _ _) rfl
      · refine step_plain [9, 10] (by kernel_rfl) rfl fun us w' hG hV => ?_
        have e9 : us 9 = .int .i64 (b - y0) := hV 9 (by simp)
        have v9 := (frame_at2 (us := us) hl (show (pbT[44]?).join = some 9 from rfl)).trans e9
        have e10 : us 10 = .int .i64 m := hV 10 (by simp)
        have v10 := (frame_at2 (us := us) hl (show (pbT[45]?).join = some 10 from rfl)).trans e10
        generalize frame pbT a0 us = fr at *
        exact call_ok (f := 87) (args := #[.int .i64 (b - y0), .int .i64 m]) (by go_simp) ((FB.out w').mono fun e w'' h => ⟨_, h.1, hG.below h.2, h.2, rfl⟩)
      · refine step_plain [1, 6, 11] (by kernel_rfl) rfl fun us w' hG hV => ?_
        have e1 : us 1 = .slice B m d := hV 1 (by simp)
        have v1 := (frame_at2 (us := us) hl (show (pbT[36]?).join = some 1 from rfl)).trans e1
        have e6 : us 6 = .int .i64 lo := hV 6 (by simp)
        have v6 := (frame_at2 (us := us) hl (show (pbT[41]?).join = some 6 from rfl)).trans e6
        have e11 : us 11 = .int .i64 hi := hV 11 (by simp)
        have v11 := (frame_at2 (us := us) hl (show (pbT[46]?).join = some 11 from rfl)).trans e11
        have hsc := SC.out w'
        generalize frame pbT a0 us = fr at *
        exact val_ok (v := .slice B1 K d1) (w' := w') (by go_simp) hG (Below.refl _ _) rfl
      · refine step_plain [12] (by kernel_rfl) rfl fun us w' hG hV => ?_
        have e12 : us 12 = .slice B1 K d1 := hV 12 (by simp)
        have v12 := (frame_at2 (us := us) hl (show (pbT[47]?).join = some 12 from rfl)).trans e12
        generalize frame pbT a0 us = fr at *
        exact call_ok (f := 80) (args := #[.slice B1 K d1]) (by go_simp) ((CL.out w' hG).mono fun e w'' ⟨A', c', h1, h2, h3, h4⟩ => ⟨_, h1, hG.below h4, h4, A', c', rfl, h2, h3.less hG.size⟩)
      · refine step_plain [13] (by kernel_rfl) rfl fun us w' hG hV => ?_
        obtain ⟨A13, c13, e13, f13, q13⟩ := (show ∃ A' c', us 13 = .slice A' K c' ∧ K ≤ c' ∧ Own .u8 5 w' (Wr.heap.size) (.slice A' K c') XS from hV 13 (by simp))
        have v13 := (frame_at2 (us := us) hl (show (pbT[48]?).join = some 13 from rfl)).trans e13
        generalize frame pbT a0 us = fr at *
        exact val_ok (v := .slice A13 K c13) (w' := w') (by go_simp) hG (Below.refl _ _) ⟨A13, c13, rfl, f13, q13⟩
      · intro us w7 hG hV
        obtain ⟨A7, c7, e14, f14, q14⟩ := (show ∃ A' c', us 14 = .slice A' K c' ∧ K ≤ c' ∧ Own .u8 5 w7 Wr.heap.size (.slice A' K c') XS from hV 14 (by decide))
        subst ha0
        simp only [frame, pbT, fill]
        rw [e14]
        have P7 := Lib.hid (PR.out.next hG)
        have HO7 := Lib.hid q14
        have kda := pkC.PkC.cell P7.out.row.row (segC HM7.out A n c B m d).da
        have fda := P7.out.row.frozen 31
        have SK := fun (w' : World) => cut_three A7 K c7 f14 w'
        clear hV hl hG k3 k4 k5 k8 k9 e14 f14 q14 KD KA KB FA FB CL SC WA WB PR
        go_upto_region 9 with fail
        have P8 := Lib.hid (P7.out.set_ (s' := s7) 31 (.slice A7 K K) (segV_da HM7.out))
        have HO8 := Lib.hid (HO7.out.keep (w' := w7.setCell ⟨w.heap.size, 31, none⟩ (.slice A7 K K)) fun k h1 h2 => Below.heap_setCell _ _ _ _ (by show k ≠ w.heap.size; have := LT.out; omega))
        generalize (w7.setCell ⟨w.heap.size, 31, none⟩ (.slice A7 K K)) = w8 at *
        clear kda fda P7 HO7 SK
        have ksk := pkC.PkC.cell P8.out.row.row (segC HM7.out A n c A7 K K).sk
        go_upto_region 10 with (first
          | (go_at_call 88; (refine (PL0.out _ P8.out.bel).mono ?_); rintro e w9 ⟨A9, c9, rfl, q9, BB⟩
             have P9 := Lib.hid (P8.out.next BB)
             have HO9 := Lib.hid (HO8.out.below BB)
             have HP9 := Lib.hid q9
             have L89 := Lib.hid (show w.heap.size + 3 < w8.heap.size from P8.out.res.lt)
             have ksk9 := pkC.PkC.cell P9.out.row.row (segC HM7.out A n c A7 K K).sk
             have fsk9 := P9.out.row.frozen 12
             clear BB q9))
        have P10 := Lib.hid (P9.out.set_ (s' := s7) 12 (.slice A9 n c9) segV_sk)
        have HO10 := Lib.hid (HO9.out.keep (w' := w9.setCell ⟨w.heap.size, 12, none⟩ (.slice A9 n c9)) fun k h1 h2 => Below.heap_setCell _ _ _ _ (by show k ≠ w.heap.size; have := LT.out; omega))
        have HP10 := Lib.hid (HP9.out.keep (w' := w9.setCell ⟨w.heap.size, 12, none⟩ (.slice A9 n c9)) fun k h1 h2 => Below.heap_setCell _ _ _ _ (by show k ≠ w.heap.size; have := L89.out; omega))
        generalize (w9.setCell ⟨w.heap.size, 12, none⟩ (.slice A9 n c9)) = u10 at *
        clear ksk ksk9 fsk9 P9 HO9 HP9 PL0 HO8 P8
        have RW := Lib.hid P10.out.row.row
        have ZW := Lib.hid P10.out.res.row
        have FW := Lib.hid P10.out.bel
        have IA := Lib.hid (segC HM7.out A9 n c9 A7 K K).info
        have SZ := Lib.hid (seg_size (s := zSg) (s' := s7) zOpt_ok.lm HM7.out none A9 0 0 n c9 none A7 0 0 K K)
        have OO := Lib.hid (seg_one s7 A9 n c9 A7 K K)
        obtain ⟨CA, hCA⟩ : ∃ C, C = segV s7 A9 n c9 A7 K K := ⟨_, rfl⟩
        rw [← hCA] at RW IA SZ OO
        have HCA := Lib.hid hCA
        clear hCA P10
        go_wp2_with (first
          | (refine wpList_load_row rfl 34 (.tmp 3) rfl w.heap.size rfl _ _ _ _ RW.out Tryd.underlying34 rfl IA.out ?_)
          | (refine wpList_store_row rfl 34 (.tmp 6) (.tmp 62) rfl (w.heap.size + 3) CA rfl rfl _ _ ZW.out IA.out SZ.out OO.out ?_))
        refine bodyPost_ret (v := .agg CA) (Go.results_cell_row Tryd.results53 _ _ (w.heap.size + 3) _ _ _ _ (by rfl) (setRow_heap _ _ _ _ _ _ ZW.out) Tryd.underlying34 rfl IA.out) rfl ?_
        have HO11 := HO10.out.keep (w' := u10.setRow (w.heap.size + 3) CA) fun k h1 h2 => setRow_other _ _ _ _ (by have := LT.out; omega)
        have HP11 := HP10.out.keep (w' := u10.setRow (w.heap.size + 3) CA) fun k h1 h2 => setRow_other _ _ _ _ (by have := L89.out; omega)
        refine ⟨A9, c9, A7, K, K, c7, by rw [HCA.out], by rw [HOP.out]; exact HLN.out, by rw [HOP.out]; exact HP11.less (by have := L89.out; omega), HO11.less (by have := LT.out; omega), Nat.le_refl _, aesC.below_setRow FW.out (by omega) _⟩
end Go.Proofs.YtniimgbljhmcoaaDoor.sgC
