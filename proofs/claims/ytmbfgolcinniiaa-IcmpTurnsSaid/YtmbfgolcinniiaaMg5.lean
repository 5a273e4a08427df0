/-
  6 texts of a proof, joined.
-/
import Derived.Test.YtmbfgolcinniiaaMg4
import Derived.StillTailTactics
import Derived.Deep.RegionWith
import Derived.Laws.Rows
import Derived.Test.YtmbfgolcinniiaaMg3
import Derived.ProofKit
import Derived.Outline
import Derived.Deep.QuietTactic
import Derived.BigQuiet
import Derived.Lib.Hide
import Derived.IntWalk
import Derived.Laws.BitsAllLaws

/-
  What Pseudo, Load and Good do.
-/
namespace Go.Proofs.Ytmbfgolcinniiaa.chkC
open Go.ChangeShapes Go.WideShapes Go.ChangeAt Go.RowKit
open Go.Proofs.Ytmbfgolcinniiaa.memC Go.Proofs.Ytmbfgolcinniiaa.chkM
set_option linter.unusedVariables false
/-- an address's cells -/
structure AddrC (cs : Array Value) (six : Bool) (bs : List Int) : Prop where
  size : cs.size = 17
  six : cs[0]? = some (.bool six)
  len : bs.length = 16
  at_ : ∀ i, i < 16 → cs[1 + i]? = some (.int .u8 (bs.getD i 0))
  byte : ∀ x ∈ bs, Byte x
theorem cell_alloc_new (w : World) (cs : Array Value) (T : TypeId) (j : Nat) : (w.alloc (.cells cs T)).cell? ⟨w.heap.size, j, none⟩ = cs[j]? := by
  have h : (w.alloc (.cells cs T)).heap[w.heap.size]? = some (.cells cs T (0, 0)) := heap_alloc_new w _
  exact cell_of_row _ _ j cs T (0, 0) h
theorem alloc_below' (w0 w : World) (o : Obj) (h : w.heap.size = w0.heap.size + 1) : Below (w0.heap.size + 1) w (w.alloc o) := by rw [← h]; exact alloc_below w o
theorem AddrC.nums {cs : Array Value} {six : Bool} {bs : List Int} (h : AddrC cs six bs) (w : World) (T : TypeId) : Nums .u8 (w.alloc (.cells cs T)) (w.heap.size + 1) (some ⟨w.heap.size, 1, none⟩) 16 bs :=
  ⟨h.len, fun _ => ⟨w.heap.size, 1, rfl, Nat.lt_succ_self _, fun i hi => by rw [cell_alloc_new]; exact h.at_ i hi⟩⟩
theorem lit_part (w : World) (ls : List Int) (T : TypeId) (h : ls.length ≤ 10000) (hy : ∀ x ∈ ls, Byte x) :
    PartAt (w.alloc (.cells (ls.map (Value.int .u8)).toArray T)) (w.alloc (.cells (ls.map (Value.int .u8)).toArray T)).heap.size ⟨some ⟨w.heap.size, 0, none⟩, ls.length, ls.length, ls⟩ := by
  refine ⟨⟨rfl, fun _ => ⟨_, 0, rfl, by rw [alloc_size]; exact Nat.lt_succ_self _, fun i hi => ?_⟩⟩, h, hy⟩
  have hi' : i < ls.length := hi
  rw [Nat.zero_add, cell_alloc_new]
  simp [List.getD_eq_getElem?_getD, hi']
theorem concat3 {W : World} {A1 A2 : Option Addr} {n1 c1 n2 c2 : Nat} {b1 b2 : List Int} (ls : List Int) (cs : Array Value) (L n : Nat) (h1 : PartAt W W.heap.size ⟨A1, n1, c1, b1⟩) (h2 : PartAt W W.heap.size ⟨A2, n2, c2, b2⟩)
    (hcs : (ls.map (Value.int .u8)).toArray = cs) (hL : ls.length = L) (hL2 : L ≤ 10000) (hy : ∀ x ∈ ls, Byte x) (hn : n1 + (n2 + L) = n) (h0 : 0 < n) :
    Calls Try.prog 53 #[.slice (some ⟨W.heap.size + 1, 0, none⟩) 3 3]
      ((W.alloc (.cells cs 5)).alloc (.cells #[.slice A1 n1 c1, .slice A2 n2 c2, .slice (some ⟨W.heap.size, 0, none⟩) L L] 24)).drew (CatRet W (b1 ++ (b2 ++ ls)) n) := by
  subst hL
  have P3 := lit_part W ls 5 hL2 hy
  rw [hcs] at P3
  have PP := parts3 (h1.alloc (.cells cs 5)) (h2.alloc (.cells cs 5)) P3 24
  have f1 := h1.few
  have f2 := h2.few
  simp only at f1 f2
  have PQ := PP.heap (w' := ((W.alloc (.cells cs 5)).alloc (.cells #[.slice A1 n1 c1, .slice A2 n2 c2, .slice (some ⟨W.heap.size, 0, none⟩) ls.length ls.length] 24)).drew) rfl
  have C := concat_any _ 3 3 n _ _ PQ (by decide) rfl (by simp [nsum]; exact hn) h0 (by omega)
  rw [alloc_size] at C
  have B : Below W.heap.size W ((W.alloc (.cells cs 5)).alloc (.cells #[.slice A1 n1 c1, .slice A2 n2 c2, .slice (some ⟨W.heap.size, 0, none⟩) ls.length ls.length] 24)).drew := (((Below.refl _ _).alloc (Nat.le_refl _) _).alloc (by simp) _).drew
  refine C.mono fun e w' ⟨A, c, he, g1, g2, O, Bw⟩ => ⟨A, c, he, g1, g2, ?_, B.trans (Bw.mono B.size)⟩
  have := O.less B.size
  simpa [catL] using this
set_option maxRecDepth 100000 in
set_option maxHeartbeats 1000000 in
theorem pseudo_six (cs1 cs2 : Array Value) (s1 s2 : Bool) (b1 b2 : List Int) (p n : Int) (w : World) (h1 : AddrC cs1 s1 b1) (h2 : AddrC cs2 s2 b2) (hs : (s1 || s2) = true) (p0 : 0 ≤ p) (p1 : p ≤ 255) (n0 : 0 ≤ n) (n1 : n ≤ 10000) :
    Calls Try.prog 42 #[.agg cs1, .agg cs2, .int .u8 p, .int .i64 n] w (CatRet w (b1 ++ (b2 ++ [n / 16777216, n / 65536, n / 256, n % 256, 0, 0, 0, p])) 40) := by
  have hz : (w.alloc (.cells cs1 29)).heap.size = w.heap.size + 1 := alloc_size _ _
  have N1 := (h1.nums w 29).below (alloc_below' w (w.alloc (.cells cs1 29)) (.cells cs2 29) hz)
  have N2 := h2.nums (w.alloc (.cells cs1 29)) 29
  rw [hz] at N2
  have k1 : ((w.alloc (.cells cs1 29)).alloc (.cells cs2 29)).cell? ⟨w.heap.size, 0, none⟩ = some (.bool s1) := by
    rw [(alloc_below' w (w.alloc (.cells cs1 29)) (.cells cs2 29) hz).cell (Nat.lt_succ_self _), cell_alloc_new, h1.six]
  have k2 : ((w.alloc (.cells cs1 29)).alloc (.cells cs2 29)).cell? ⟨w.heap.size + 1, 0, none⟩ = some (.bool s2) := by
    have := cell_alloc_new (w.alloc (.cells cs1 29)) cs2 29 0
    rw [hz] at this
    rw [this, h2.six]
  have HZ := Lib.hid hz
  clear hz
  cases s1 <;> cases s2
  all_goals try (exfalso; cases hs; done)
  all_goals
    clear hs
    go_enter Try.func42, Try.ntmps42
    go_wp2_with fail
    have P1 : PartAt ((w.alloc (.cells cs1 29)).alloc (.cells cs2 29)) ((w.alloc (.cells cs1 29)).alloc (.cells cs2 29)).heap.size ⟨some ⟨w.heap.size, 1, none⟩, 16, 16, b1⟩ :=
      ⟨N1.more (by rw [alloc_size, HZ.out]; omega), (show 16 ≤ 10000 by decide), h1.byte⟩
    have P2 : PartAt ((w.alloc (.cells cs1 29)).alloc (.cells cs2 29)) ((w.alloc (.cells cs1 29)).alloc (.cells cs2 29)).heap.size ⟨some ⟨w.heap.size + 1, 1, none⟩, 16, 16, b2⟩ :=
      ⟨N2.more (by rw [alloc_size, HZ.out]; omega), (show 16 ≤ 10000 by decide), h2.byte⟩
    have BW : Below w.heap.size w ((w.alloc (.cells cs1 29)).alloc (.cells cs2 29)) := ((Below.refl _ _).alloc (Nat.le_refl _) _).alloc (by simp) _
    clear N1 N2 k1 k2 HZ
    generalize (w.alloc (.cells cs1 29)).alloc (.cells cs2 29) = W at *
    have e1 : IntKind.u8.wrap (n / 16777216) = n / 16777216 := IntWalk.u8_in _ (by omega)
    have e2 : IntKind.u8.wrap (n / 65536) = n / 65536 := IntWalk.u8_in _ (by omega)
    have e3 : IntKind.u8.wrap (n / 256) = n / 256 := IntWalk.u8_in _ (by omega)
    have e4 : IntKind.u8.wrap n = n % 256 := IntKind.wrap_u8 n
    go_region_with (first
      | (go_at_call 53
         (refine (concat3 [n / 16777216, n / 65536, n / 256, n % 256, 0, 0, 0, p] _ 8 40 P1 P2 rfl rfl (by decide) (by simp [Byte]; omega) rfl (by decide)).mono ?_)
         rintro e w3 ⟨A3, c3, rfl, g1, g2, O3, B3⟩))
    clear P1 P2
    go_wp2_with fail
    go_ret
    exact ⟨A3, c3, rfl, g1, g2, O3.less BW.size, BW.trans (B3.mono BW.size)⟩
set_option maxRecDepth 100000 in
set_option maxHeartbeats 1000000 in
theorem pseudo_four (cs1 cs2 : Array Value) (s1 s2 : Bool) (b1 b2 : List Int) (p n : Int) (w : World) (h1 : AddrC cs1 s1 b1) (h2 : AddrC cs2 s2 b2) (hs : (s1 || s2) = false) (p0 : 0 ≤ p) (p1 : p ≤ 255) (n0 : 0 ≤ n) (n1 : n ≤ 10000) :
    Calls Try.prog 42 #[.agg cs1, .agg cs2, .int .u8 p, .int .i64 n] w (CatRet w (b1.take 4 ++ (b2.take 4 ++ [0, p, n / 256, n % 256])) 12) := by
  have hz : (w.alloc (.cells cs1 29)).heap.size = w.heap.size + 1 := alloc_size _ _
  have N1 := (h1.nums w 29).below (alloc_below' w (w.alloc (.cells cs1 29)) (.cells cs2 29) hz)
  have N2 := h2.nums (w.alloc (.cells cs1 29)) 29
  rw [hz] at N2
  have k1 : ((w.alloc (.cells cs1 29)).alloc (.cells cs2 29)).cell? ⟨w.heap.size, 0, none⟩ = some (.bool s1) := by
    rw [(alloc_below' w (w.alloc (.cells cs1 29)) (.cells cs2 29) hz).cell (Nat.lt_succ_self _), cell_alloc_new, h1.six]
  have k2 : ((w.alloc (.cells cs1 29)).alloc (.cells cs2 29)).cell? ⟨w.heap.size + 1, 0, none⟩ = some (.bool s2) := by
    have := cell_alloc_new (w.alloc (.cells cs1 29)) cs2 29 0
    rw [hz] at this
    rw [this, h2.six]
  have HZ := Lib.hid hz
  clear hz
  cases s1 <;> cases s2
  all_goals try (exfalso; cases hs; done)
  all_goals
    clear hs
    go_enter Try.func42, Try.ntmps42
    go_wp2_with fail
    have P1 : PartAt ((w.alloc (.cells cs1 29)).alloc (.cells cs2 29)) ((w.alloc (.cells cs1 29)).alloc (.cells cs2 29)).heap.size ⟨some ⟨w.heap.size, 1, none⟩, 4, 16, b1.take 4⟩ :=
      ⟨(N1.upto (show 4 ≤ 16 by decide)).more (by rw [alloc_size, HZ.out]; omega), (show 4 ≤ 10000 by decide), take_byte h1.byte 4⟩
    have P2 : PartAt ((w.alloc (.cells cs1 29)).alloc (.cells cs2 29)) ((w.alloc (.cells cs1 29)).alloc (.cells cs2 29)).heap.size ⟨some ⟨w.heap.size + 1, 1, none⟩, 4, 16, b2.take 4⟩ :=
      ⟨(N2.upto (show 4 ≤ 16 by decide)).more (by rw [alloc_size, HZ.out]; omega), (show 4 ≤ 10000 by decide), take_byte h2.byte 4⟩
    have BW : Below w.heap.size w ((w.alloc (.cells cs1 29)).alloc (.cells cs2 29)) := ((Below.refl _ _).alloc (Nat.le_refl _) _).alloc (by simp) _
    clear N1 N2 k1 k2 HZ
    generalize (w.alloc (.cells cs1 29)).alloc (.cells cs2 29) = W at *
    have e3 : IntKind.u8.wrap (n / 256) = n / 256 := IntWalk.u8_in _ (by omega)
    have e4 : IntKind.u8.wrap n = n % 256 := IntKind.wrap_u8 n
    go_region_with (first
      | (go_at_call 53
         (refine (concat3 [0, p, n / 256, n % 256] _ 4 12 P1 P2 rfl rfl (by decide) (by simp [Byte]; omega) rfl (by decide)).mono ?_)
         rintro e w3 ⟨A3, c3, rfl, g1, g2, O3, B3⟩))
    clear P1 P2
    go_wp2_with fail
    go_ret
    exact ⟨A3, c3, rfl, g1, g2, O3.less BW.size, BW.trans (B3.mono BW.size)⟩
end Go.Proofs.Ytmbfgolcinniiaa.chkC

/-
  What Load and Good do.
-/
namespace Go.Proofs.Ytmbfgolcinniiaa.chkC
open Go.ChangeShapes Go.WideShapes Go.ChangeAt Go.RowKit
open Go.Proofs.Ytmbfgolcinniiaa.memC Go.Proofs.Ytmbfgolcinniiaa.chkM
set_option linter.unusedVariables false
theorem addr_info : (Try.prog.info? 29).map (·.size) = some 17 := by kernel_rfl
theorem check2_on {w w0 : World} {A A' : Option Addr} {n c n' c' : Nat} {bs bs' : List Int} {f : Int} (B : Below w.heap.size w w0) (h : PartAt w0 w0.heap.size ⟨A, n, c, bs⟩) (h' : PartAt w0 w0.heap.size ⟨A', n', c', bs'⟩) (hf : 65535 - fo (wsum bs + wsum bs') = f) :
    Calls Try.prog 28 #[.slice (some ⟨w0.heap.size, 0, none⟩) 2 2] (w0.alloc (.cells #[.slice A n c, .slice A' n' c'] 24)) (NumRet w f) :=
  (check_any _ 2 2 _ _ (parts2 h h' 24) (by decide) rfl).mono fun e w' ⟨he, j, hw⟩ =>
    ⟨by rw [he]; exact ret_int (by rw [← hf]; simp [ckZ, numsOf, psum]), by rw [hw]; exact bel_drewN (B.trans ((alloc_below w0 _).mono B.size)) j⟩
end Go.Proofs.Ytmbfgolcinniiaa.chkC

/-
  Small words for every stage: endings, allocations, arrays of the call's own known whole.
-/
namespace Go.Proofs.Ytmbfgolcinniiaa.genC
open Go.ChangeShapes Go.WideShapes Go.ChangeAt Go.RowKit
open Go.Proofs.Ytmbfgolcinniiaa.memC
set_option linter.unusedVariables false
theorem ret_int {k : IntKind} {a b : Int} (h : a = b) : Ending.returned (.int k a) = .returned (.int k b) := by rw [h]
theorem ret_bool {a b : Bool} (h : a = b) : Ending.returned (.bool a) = .returned (.bool b) := by rw [h]
theorem val_int {k : IntKind} {a b : Int} (h : a = b) : Value.int k a = .int k b := by rw [h]
theorem alloc_below (w : World) (o : Obj) : Below w.heap.size w (w.alloc o) := (Below.refl _ _).alloc (Nat.le_refl _) _
theorem alloc_size (w : World) (o : Obj) : (w.alloc o).heap.size = w.heap.size + 1 := by simp
theorem bel_drewN {B : Nat} {a w : World} (h : Below B a w) (n : Nat) : Below B a (w.drewN n) := ⟨h.os, h.tape, h.output, h.size, h.block⟩
theorem cell_alloc_new (w : World) (cs : Array Value) (T : TypeId) (j : Nat) : (w.alloc (.cells cs T)).cell? ⟨w.heap.size, j, none⟩ = cs[j]? := by
  have h : (w.alloc (.cells cs T)).heap[w.heap.size]? = some (.cells cs T (0, 0)) := heap_alloc_new w _
  exact cell_of_row _ _ j cs T (0, 0) h
def Byte (x : Int) : Prop := 0 ≤ x ∧ x ≤ 255
theorem getD_byte {bs : List Int} (hy : ∀ x ∈ bs, Byte x) {k : Nat} (hk : k < bs.length) : Byte (bs.getD k 0) := by
  rw [List.getD_eq_getElem?_getD, List.getElem?_eq_getElem hk]; exact hy _ (List.getElem_mem _)
/-- block g holds the numbers xs, and nothing else -/
structure Arr (k : IntKind) (T : TypeId) (w : World) (g : Nat) (xs : List Int) : Prop where
  row : w.heap[g]? = some (.cells (xs.map (Value.int k)).toArray T (0, 0))
section
variable {k : IntKind} {T : TypeId} {w w' : World} {g : Nat} {xs : List Int}
theorem Arr.lt (h : Arr k T w g xs) : g < w.heap.size := by
  rcases Nat.lt_or_ge g w.heap.size with h1 | h1
  · exact h1
  · have := h.row; rw [Array.getElem?_eq_none h1] at this; cases this
theorem Arr.cell (h : Arr k T w g xs) {j : Nat} (hj : j < xs.length) : w.cell? ⟨g, j, none⟩ = some (.int k (xs.getD j 0)) := by
  rw [cell_of_row w g j _ T (0, 0) h.row]
  simp [List.getD_eq_getElem?_getD, hj]
theorem Arr.frozen (h : Arr k T w g xs) (j : Nat) : w.frozen? ⟨g, j, none⟩ = false := frozen_of_row w g j _ T h.row
theorem Arr.stored (h : Arr k T w g xs) (j : Nat) (x : Int) : Arr k T (w.setCell ⟨g, j, none⟩ (.int k x)) g (xs.set j x) := by
  refine ⟨?_⟩
  rw [heap_setCell_same w g j _ T _ h.row, List.map_set]
  simp
theorem Arr.other (h : Arr k T w g xs) {a : Addr} (ha : a.block ≠ g) (v : Value) : Arr k T (w.setCell a v) g xs := ⟨by rw [heap_setCell_other w a g v (fun e => ha e.symm)]; exact h.row⟩
theorem Arr.heap (h : Arr k T w g xs) (e : w'.heap = w.heap) : Arr k T w' g xs := ⟨by rw [e]; exact h.row⟩
theorem Arr.below {B : Nat} (h : Arr k T w g xs) (hb : Below B w w') (hg : g < B) : Arr k T w' g xs := ⟨by rw [hb.block g hg]; exact h.row⟩
theorem Arr.alloc (h : Arr k T w g xs) (o : Obj) : Arr k T (w.alloc o) g xs := h.below (alloc_below w o) h.lt
theorem Arr.new (w : World) (k : IntKind) (T : TypeId) (xs : List Int) : Arr k T (w.alloc (.cells (xs.map (Value.int k)).toArray T)) w.heap.size xs := ⟨heap_alloc_new w _⟩
theorem Arr.part (h : Arr k T w g xs) {n : Nat} (hn : xs.length = n) : Nums k w w.heap.size (some ⟨g, 0, none⟩) n xs :=
  ⟨hn, fun _ => ⟨g, 0, rfl, h.lt, fun i hi => by rw [Nat.zero_add]; exact h.cell (by omega)⟩⟩
end
theorem list5 {α : Type} {l : List α} (h : l.length = 5) : ∃ a b c d e, l = [a, b, c, d, e] := by
  match l, h with
  | [a, b, c, d, e], _ => exact ⟨a, b, c, d, e, rfl⟩
end Go.Proofs.Ytmbfgolcinniiaa.genC

/-
  A region that draws its order, by an invariant: each operation is looked at once, in whatever order it comes up.
-/
namespace Go.Proofs.Ytmbfgolcinniiaa.freeC
open Go.ChangeShapes Go.WideShapes Go.ChangeAt Go.RowKit
set_option linter.unusedVariables false
def upd {α : Type} (f : Nat → α) (i : Nat) (v : α) : Nat → α := fun j => if j = i then v else f j
theorem upd_same {α : Type} (f : Nat → α) (i : Nat) (v : α) : upd f i v i = v := if_pos rfl
theorem upd_other {α : Type} (f : Nat → α) {i j : Nat} (v : α) (h : j ≠ i) : upd f i v j = f j := if_neg h
/-- the frame: a slot that operation i writes holds what i has given -/
def fill : List (Option Nat) → (Nat → Value) → List Value → List Value
  | _, _, [] => []
  | [], _, l => l
  | none :: t, us, v :: r => v :: fill t us r
  | some i :: t, us, _ :: r => us i :: fill t us r
def frame (tab : List (Option Nat)) (a : Act) (us : Nat → Value) : Act := { a with tmps := (fill tab us a.tmps.toList).toArray }
theorem fill_len : ∀ (tab : List (Option Nat)) (us : Nat → Value) (l : List Value), (fill tab us l).length = l.length
  | [], us, [] => rfl
  | _ :: _, us, [] => by simp [fill]
  | [], us, _ :: _ => rfl
  | none :: t, us, v :: r => by simp [fill, fill_len t us r]
  | some i :: t, us, v :: r => by simp [fill, fill_len t us r]
theorem fill_at : ∀ (tab : List (Option Nat)) (us : Nat → Value) (l : List Value) (s : Nat), s < l.length → (fill tab us l)[s]? = (match (tab[s]?).join with | some i => some (us i) | none => l[s]?)
  | [], us, v :: r, s, h => by simp [fill]
  | none :: t, us, v :: r, 0, h => by simp [fill]
  | some i :: t, us, v :: r, 0, h => by simp [fill]
  | none :: t, us, v :: r, s + 1, h => by simpa [fill] using fill_at t us r s (by simpa using h)
  | some i :: t, us, v :: r, s + 1, h => by simpa [fill] using fill_at t us r s (by simpa using h)
theorem frame_get {tab : List (Option Nat)} {a : Act} {us : Nat → Value} {s i : Nat} (hl : tab.length = a.tmps.size) (ht : (tab[s]?).join = some i) : (frame tab a us).tmps[s]? = some (us i) := by
  have hs : s < a.tmps.size := by
    rcases Nat.lt_or_ge s tab.length with h1 | h1
    · omega
    · rw [List.getElem?_eq_none h1] at ht; cases ht
  have h := fill_at tab us a.tmps.toList s (by simpa using hs)
  rw [ht] at h
  simpa [frame] using h
theorem frame_at {tab : List (Option Nat)} {a : Act} {us : Nat → Value} {s i : Nat} (hl : tab.length = a.tmps.size) (ht : (tab[s]?).join = some i) : (frame tab a us).eval (.tmp s) = us i := by
  have h := frame_get (us := us) hl ht
  simp only [Act.eval, Array.getD_eq_getD_getElem?, h, Option.getD_some]
theorem frame_old {tab : List (Option Nat)} {a : Act} {us : Nat → Value} {s : Nat} (ht : (tab[s]?).join = none) : (frame tab a us).eval (.tmp s) = a.eval (.tmp s) := by
  rcases Nat.lt_or_ge s a.tmps.size with hs | hs
  · have h := fill_at tab us a.tmps.toList s (by simpa using hs)
    rw [ht] at h
    simp only [frame, Act.eval, Array.getD_eq_getD_getElem?, List.getElem?_toArray, h, Array.getElem?_toList]
  · have h : (fill tab us a.tmps.toList)[s]? = none := List.getElem?_eq_none (by rw [fill_len]; simpa using hs)
    simp only [frame, Act.eval, Array.getD_eq_getD_getElem?, List.getElem?_toArray, h, Array.getElem?_eq_none hs]
theorem frame_at2 {tab : List (Option Nat)} {a : Act} {us : Nat → Value} {s i : Nat} (hl : tab.length = a.tmps.size) (ht : (tab[s]?).join = some i) : (frame tab a us).tmps[s]?.getD undef = us i := by
  rw [frame_get hl ht]; rfl
theorem frame_old2 {tab : List (Option Nat)} {a : Act} {us : Nat → Value} {s : Nat} (ht : (tab[s]?).join = none) : (frame tab a us).tmps[s]?.getD undef = a.tmps[s]?.getD undef := by
  have h := frame_old (us := us) (a := a) ht
  simpa only [Act.eval, Array.getD_eq_getD_getElem?] using h
theorem yield_at {L : List Oper} {tab : List (Option Nat)} {a : Act} {us : Nat → Value} {j t : Nat} {b : Bool} (hl : tab.length = a.tmps.size) (hj : (L[j]?).bind (·.dst) = some t) (ht : (tab[t]?).join = some j) (hv : us j = .bool b) :
    yielded L.toArray (frame tab a us).tmps j = some b := by
  have h := frame_get (us := us) hl ht
  have h2 : (L.toArray[j]?).bind (·.dst) = some t := by rw [List.getElem?_toArray]; exact hj
  unfold yielded
  rw [h2]
  simp only [Option.bind_some, h, hv]
/-- operation i, and it alone, writes slot t -/
def writes (tab : List (Option Nat)) (i : Nat) : Option Tmp → Bool
  | some t => ((tab[t]?).join == some i) && (List.range tab.length).all fun s => s == t || (tab[s]?).join != some i
  | none => (List.range tab.length).all fun s => (tab[s]?).join != some i
theorem frame_put {tab : List (Option Nat)} {a : Act} (us : Nat → Value) {i : Nat} {d : Option Tmp} (h : writes tab i d = true) (hl : tab.length = a.tmps.size) (v : Value) : (frame tab a us).put d v = frame tab a (upd us i v) := by
  have hne : ∀ s, (∀ t, d = some t → s ≠ t) → (tab[s]?).join ≠ some i := by
    intro s hs
    rcases Nat.lt_or_ge s tab.length with h1 | h1
    · cases d with
      | none =>
        have := List.all_eq_true.1 h s (List.mem_range.2 h1)
        simpa using this
      | some t =>
        simp only [writes, Bool.and_eq_true] at h
        have := List.all_eq_true.1 h.2 s (List.mem_range.2 h1)
        have hst := hs t rfl
        simpa [hst] using this
    · rw [List.getElem?_eq_none h1]; simp
  unfold frame Act.put
  cases d with
  | none =>
    show (⟨(fill tab us a.tmps.toList).toArray, a.defers⟩ : Act) = ⟨(fill tab (upd us i v) a.tmps.toList).toArray, a.defers⟩
    congr 2
    apply List.ext_getElem?
    intro s
    rcases Nat.lt_or_ge s a.tmps.size with h1 | h1
    · rw [fill_at _ _ _ _ (by simpa using h1), fill_at _ _ _ _ (by simpa using h1)]
      have := hne s (by simp)
      cases hj : (tab[s]?).join with
      | none => rfl
      | some j => rw [hj] at this; simp only [upd]; rw [if_neg (by intro e; exact this (by rw [e]))]
    · rw [List.getElem?_eq_none (by rw [fill_len]; simpa using h1), List.getElem?_eq_none (by rw [fill_len]; simpa using h1)]
  | some t =>
    have htt : (tab[t]?).join = some i := by
      simp only [writes, Bool.and_eq_true] at h
      simpa using h.1
    show (⟨(fill tab us a.tmps.toList).toArray.setIfInBounds t v, a.defers⟩ : Act) = ⟨(fill tab (upd us i v) a.tmps.toList).toArray, a.defers⟩
    congr 1
    apply Array.ext_getElem?
    intro s
    rw [Array.getElem?_setIfInBounds]
    simp only [List.getElem?_toArray, List.size_toArray, fill_len, Array.length_toList]
    rcases Nat.lt_or_ge s a.tmps.size with h1 | h1
    · rw [fill_at _ _ _ _ (by simpa using h1), fill_at _ _ _ _ (by simpa using h1)]
      by_cases e : t = s
      · subst e
        rw [if_pos rfl, if_pos h1, htt]
        simp [upd]
      · rw [if_neg e]
        have := hne s (by rintro t' ht'; obtain rfl := Option.some.inj ht'; exact fun e2 => e e2.symm)
        cases hj : (tab[s]?).join with
        | none => rfl
        | some j => rw [hj] at this; simp only [upd]; rw [if_neg (by intro e; exact this (by rw [e]))]
    · rw [List.getElem?_eq_none (by rw [fill_len]; simpa using h1), List.getElem?_eq_none (by rw [fill_len]; simpa using h1)]
      by_cases e : t = s
      · subst e; rw [if_pos rfl, if_neg (Nat.not_lt.2 h1)]
      · rw [if_neg e]
/-- how many are not yet listed -/
def left (m : Array Bool) : Nat → Nat
  | 0 => 0
  | k + 1 => left m k + (if m.getD k true then 0 else 1)
theorem getD_set {m : Array Bool} {i j : Nat} (d : Bool) : (m.setIfInBounds i true).getD j d = (if i = j ∧ i < m.size then true else m.getD j d) := by
  simp only [Array.getD_eq_getD_getElem?, Array.getElem?_setIfInBounds]
  by_cases h : i = j
  · subst h
    by_cases h2 : i < m.size
    · simp [h2]
    · simp [h2]
  · simp [h]
theorem left_set {m : Array Bool} {i : Nat} (hi : i < m.size) (h : m.getD i true = false) : ∀ k, left (m.setIfInBounds i true) k + (if i < k then 1 else 0) = left m k
  | 0 => by simp [left]
  | k + 1 => by
    have ih := left_set hi h k
    have hk := getD_set (m := m) (i := i) (j := k) true
    simp only [left]
    by_cases e : i = k
    · subst e
      rw [if_pos ⟨rfl, hi⟩] at hk
      rw [if_neg (Nat.lt_irrefl _)] at ih
      rw [hk, h, if_pos (Nat.lt_succ_self _)]
      simp only [Bool.false_eq_true, if_false, if_true]; omega
    · rw [if_neg (fun hh => e hh.1)] at hk
      rw [hk]
      by_cases e2 : i < k
      · rw [if_pos e2] at ih
        rw [if_pos (Nat.lt_succ_of_lt e2)]; omega
      · rw [if_neg e2] at ih
        rw [if_neg (show ¬ i < k + 1 by omega)]; omega
theorem left_zero {m : Array Bool} : ∀ k, left m k = 0 → ∀ i, i < k → m.getD i true = true
  | 0, _, i, hi => by omega
  | k + 1, h, i, hi => by
    simp only [left] at h
    by_cases e : i = k
    · subst e
      cases hg : m.getD i true with
      | true => rfl
      | false => rw [hg] at h; simp at h
    · exact left_zero k (by omega) i (by omega)
theorem left_le (m : Array Bool) : ∀ k, left m k ≤ k
  | 0 => Nat.le_refl _
  | k + 1 => by have := left_le m k; simp only [left]; split <;> omega
/-- edges go back -/
def backE (L : List Oper) : Bool := (List.range L.length).all fun j => match L[j]? with
  | some o => o.after.all fun e => !Region.binds .any e || decide (e.on < j)
  | none => true
/-- all that an operation waits for are listed -/
def doneB (o : Oper) (m : Nat → Bool) : Bool := o.after.all fun e => !Region.binds .any e || m e.on
def slots (tab : List (Option Nat)) (L : List Oper) : Bool := (List.range L.length).all fun i => match L[i]? with
  | some o => writes tab i o.dst
  | none => true
section
variable {P : Program} {L : List Oper} {Q : Exit → Act → World → Prop}
theorem any_inv (I : Array Bool → Act → World → Prop)
    (hstep : ∀ m a w, m.size = L.length → I m a w → ∀ i, i ∈ Region.ready .any L.toArray m → wpOp P L.toArray Q i (fun a' w' => I (m.setIfInBounds i true) a' w') a w)
    (hend : ∀ m a w, m.size = L.length → I m a w → Region.ready .any L.toArray m = [] → Q .normal a w) :
    ∀ (f : Nat) (m : Array Bool) (a : Act) (w : World), m.size = L.length → left m L.length ≤ f → I m a w → wpAny P .any L.toArray Q f m a w
  | 0, m, a, w, hm, hl, h => by
    have hr : Region.ready .any L.toArray m = [] := by
      refine List.eq_nil_iff_forall_not_mem.2 fun j hj => ?_
      obtain ⟨h1, o, ho, _⟩ := mem_ready.1 hj
      have hjl : j < L.toArray.size := (Array.getElem?_eq_some_iff.1 ho).1
      have := left_zero (m := m) L.length (by omega) j (by simpa using hjl)
      rw [h1] at this; cases this
    exact ⟨hr, hend m a w hm h hr⟩
  | f + 1, m, a, w, hm, hl, h => by
    refine ⟨fun h0 => hend m a w hm h h0, fun i hi => ?_⟩
    obtain ⟨h1, o, ho, _⟩ := mem_ready.1 hi
    have hil : i < L.toArray.size := (Array.getElem?_eq_some_iff.1 ho).1
    have hil2 : i < L.length := by simpa using hil
    refine wpOp_mono (fun a' w' h' => ?_) (hstep m a w hm h i hi)
    refine any_inv I hstep hend f _ a' w' (by simpa using hm) ?_ h'
    have := left_set (m := m) (i := i) (by omega) h1 L.length
    rw [if_pos hil2] at this
    omega
theorem all_listed (hb : backE L = true) {m : Array Bool} (hm : m.size = L.length) (hr : Region.ready .any L.toArray m = []) : ∀ i, i < L.length → m.getD i false = true := by
  intro i
  induction i using Nat.strongRecOn with
  | _ i ih =>
    intro hi
    cases hg : m.getD i false with
    | true => rfl
    | false =>
      exfalso
      have hgt : m.getD i true = false := by
        simp only [Array.getD_eq_getD_getElem?, Array.getElem?_eq_getElem (show i < m.size by omega), Option.getD_some] at hg ⊢
        exact hg
      have hoi : L[i]? = some (L[i]'hi) := List.getElem?_eq_getElem hi
      have hbi := List.all_eq_true.1 hb i (List.mem_range.2 hi)
      rw [hoi] at hbi
      have : i ∈ Region.ready .any L.toArray m := mem_ready.2 ⟨hgt, L[i]'hi, by simp, fun e he hbd => by
        have h2 := Array.all_eq_true'.1 hbi e he
        rw [hbd] at h2
        have h3 : e.on < i := by simpa using h2
        exact ih e.on h3 (by omega)⟩
      rw [hr] at this
      cases this
/-- the rule: tab tells which operation writes a slot; J is what holds, by what is listed and what each has given -/
theorem wp_region_free {id : Nat} {a : Act} {w : World} (hm : P.follows .mixedOrders = true) (tab : List (Option Nat)) (hb : backE L = true) (ht : slots tab L = true) (hl : tab.length = a.tmps.size)
    (us0 : Nat → Value) (ha : frame tab a us0 = a) (J : (Nat → Bool) → (Nat → Value) → World → Prop) (h0 : J (fun _ => false) us0 { w with drawn := w.drawn + 1 })
    (hstep : ∀ i o, L[i]? = some o → ∀ m us w, J m us w → m i = false → doneB o m = true →
      if Region.wanted o (yielded L.toArray (frame tab a us).tmps) then o.wp P (frame tab a us) w (fun a' w' => ∃ v, a' = (frame tab a us).put o.dst v ∧ J (upd m i true) (upd us i v) w') Q else J (upd m i true) (upd us i undef) w)
    (hend : ∀ m us w, (∀ i, i < L.length → m i = true) → J m us w → Q .normal (frame tab a us) w) : (Code.region id L.toArray true).wp P Q a w := by
  refine wp_region_any hm ?_
  have hput : ∀ i o, L[i]? = some o → ∀ us v, (frame tab a us).put o.dst v = frame tab a (upd us i v) := by
    intro i o ho us v
    have hil : i < L.length := (List.getElem?_eq_some_iff.1 ho).1
    have h1 := List.all_eq_true.1 ht i (List.mem_range.2 hil)
    rw [ho] at h1
    exact frame_put us h1 hl v
  have hmk : ∀ (m : Array Bool) (i : Nat), i < m.size → (fun j => (m.setIfInBounds i true).getD j false) = upd (fun j => m.getD j false) i true := by
    intro m i hi
    funext j
    rw [getD_set]
    unfold upd
    by_cases e : j = i
    · subst e; simp [hi]
    · rw [if_neg e, if_neg (fun h => e h.1.symm)]
  refine any_inv (fun m a' w' => ∃ us, a' = frame tab a us ∧ J (fun j => m.getD j false) us w') ?_ ?_ _ _ _ _ (by simp) ?_ ⟨us0, ha.symm, ?_⟩
  · rintro m a' w' hms ⟨us, rfl, hJ⟩ i hi
    obtain ⟨h1, o, ho, hdeps⟩ := mem_ready.1 hi
    have ho' : L[i]? = some o := by simpa using ho
    have hil : i < L.length := (List.getElem?_eq_some_iff.1 ho').1
    have hmf : m.getD i false = false := by
      simp only [Array.getD_eq_getD_getElem?, Array.getElem?_eq_getElem (show i < m.size by omega), Option.getD_some] at h1 ⊢
      exact h1
    have hdone : doneB o (fun j => m.getD j false) = true := by
      unfold doneB
      rw [Array.all_eq_true']
      intro e he
      cases hbd : Region.binds .any e with
      | false => rfl
      | true => simpa using hdeps e he hbd
    have hs := hstep i o ho' _ us w' hJ hmf hdone
    unfold wpOp
    simp only [ho]
    split
    · rename_i hw
      rw [if_pos hw] at hs
      refine .inl (Oper.wp_mono (fun a2 w2 h2 => ?_) hs)
      obtain ⟨v, rfl, hJ2⟩ := h2
      refine ⟨upd us i v, hput i o ho' us v, ?_⟩
      rw [hmk m i (by omega)]; exact hJ2
    · rename_i hw
      rw [if_neg hw] at hs
      refine ⟨upd us i undef, hput i o ho' us undef, ?_⟩
      rw [hmk m i (by omega)]; exact hs
  · rintro m a' w' hms ⟨us, rfl, hJ⟩ hr
    exact hend _ us w' (all_listed hb hms hr) hJ
  · exact left_le _ _
  · have e : (fun j => (Array.replicate L.toArray.size false).getD j false) = fun _ => false := by
      funext j
      simp only [Array.getD_eq_getD_getElem?, Array.getElem?_replicate]
      split <;> rfl
    rw [e]; exact h0
/-- of each operation, from number s on -/
def AllFrom (R : Nat → Oper → Prop) : Nat → List Oper → Prop
  | _, [] => True
  | s, o :: r => R s o ∧ AllFrom R (s + 1) r
theorem all_from {R : Nat → Oper → Prop} : ∀ (L : List Oper) (s : Nat), AllFrom R s L → ∀ i o, L[i]? = some o → R (s + i) o
  | [], _, _, i, o, h => by simp at h
  | o' :: r, s, h, 0, o, ho => by
    obtain rfl : o' = o := by simpa using ho
    exact h.1
  | o' :: r, s, h, i + 1, o, ho => by
    have := all_from r (s + 1) h.2 i o (by simpa using ho)
    rw [show s + (i + 1) = s + 1 + i by omega]; exact this
/-- what is asked of an operation that only makes memory -/
def Step (P : Program) (L : List Oper) (Q : Exit → Act → World → Prop) (tab : List (Option Nat)) (a : Act) (G : World → Prop) (V : Nat → Value → World → Prop) (i : Nat) (o : Oper) : Prop :=
  ∀ m us w, G w → (∀ j, m j = true → V j (us j) w) → doneB o m = true →
    if Region.wanted o (yielded L.toArray (frame tab a us).tmps) then o.wp P (frame tab a us) w (fun a' w' => ∃ v, a' = (frame tab a us).put o.dst v ∧ G w' ∧ Below w.heap.size w w' ∧ V i v w') Q else V i undef w
/-- the rule for operations that write into no block that there was: V tells what each has given -/
theorem wp_region_vals {id : Nat} {a : Act} {w : World} (hm : P.follows .mixedOrders = true) (tab : List (Option Nat)) (hb : backE L = true) (ht : slots tab L = true) (hl : tab.length = a.tmps.size)
    (us0 : Nat → Value) (ha : frame tab a us0 = a) (G : World → Prop) (V : Nat → Value → World → Prop) (hG : G w.drew) (hkeep : ∀ i v w w', Below w.heap.size w w' → V i v w → V i v w')
    (hstep : AllFrom (Step P L Q tab a G V) 0 L)
    (hend : ∀ us w, G w → (∀ i, i < L.length → V i (us i) w) → Q .normal (frame tab a us) w) : (Code.region id L.toArray true).wp P Q a w := by
  refine wp_region_free hm tab hb ht hl us0 ha (fun m us w => G w ∧ ∀ j, m j = true → V j (us j) w) ⟨hG, fun j h => by cases h⟩ ?_ ?_
  · intro i o ho m us w' ⟨hg, hv⟩ hmi hd
    have hs := all_from L 0 hstep i o ho m us w' hg hv hd
    rw [Nat.zero_add] at hs
    have hset : ∀ v w'', Below w'.heap.size w' w'' → V i v w'' → ∀ j, upd m i true j = true → V j (upd us i v j) w'' := by
      intro v w'' hb hvi j hj
      by_cases e : j = i
      · subst e; rw [upd_same]; exact hvi
      · rw [upd_other _ _ e]; rw [upd_other _ _ e] at hj; exact hkeep _ _ _ _ hb (hv j hj)
    split
    · rename_i hw
      rw [if_pos hw] at hs
      refine Oper.wp_mono (fun a2 w2 h2 => ?_) hs
      obtain ⟨v, ha, hg2, hb2, hv2⟩ := h2
      exact ⟨v, ha, hg2, hset v w2 hb2 hv2⟩
    · rename_i hw
      rw [if_neg hw] at hs
      exact ⟨hg, hset undef w' (Below.refl _ _) hs⟩
  · intro m us w' hm ⟨hg, hv⟩
    exact hend us w' hg fun i hi => hv i (hm i hi)
/-- what is asked of an operation, where the invariant is the prover's own -/
def StepJ (P : Program) (L : List Oper) (Q : Exit → Act → World → Prop) (tab : List (Option Nat)) (a : Act) (J : (Nat → Bool) → (Nat → Value) → World → Prop) (i : Nat) (o : Oper) : Prop :=
  ∀ m us w, J m us w → m i = false → doneB o m = true →
    if Region.wanted o (yielded L.toArray (frame tab a us).tmps) then o.wp P (frame tab a us) w (fun a' w' => ∃ v, a' = (frame tab a us).put o.dst v ∧ J (upd m i true) (upd us i v) w') Q else J (upd m i true) (upd us i undef) w
theorem wp_region_J {id : Nat} {a : Act} {w : World} (hm : P.follows .mixedOrders = true) (tab : List (Option Nat)) (hb : backE L = true) (ht : slots tab L = true) (hl : tab.length = a.tmps.size)
    (us0 : Nat → Value) (ha : frame tab a us0 = a) (J : (Nat → Bool) → (Nat → Value) → World → Prop) (h0 : J (fun _ => false) us0 w.drew)
    (hstep : AllFrom (StepJ P L Q tab a J) 0 L)
    (hend : ∀ m us w, (∀ i, i < L.length → m i = true) → J m us w → Q .normal (frame tab a us) w) : (Code.region id L.toArray true).wp P Q a w :=
  wp_region_free hm tab hb ht hl us0 ha J h0 (fun i o ho => by have h := all_from L 0 hstep i o ho; rw [Nat.zero_add] at h; exact h) hend
theorem with_act {c : Code} {a : Act} {w : World} (h : ∀ a', a' = a → c.wp P Q a' w) : c.wp P Q a w := h a rfl
variable {o : Oper} {a : Act} {w w' : World} {K : Act → World → Prop} {tab : List (Option Nat)} {G : World → Prop} {V : Nat → Value → World → Prop} {i : Nat} {us : Nat → Value}
def needs (o : Oper) (need : List Nat) : Bool := need.all fun j => o.after.any fun e => Region.binds .any e && (e.on == j)
theorem need_ok {need : List Nat} {m : Nat → Bool} (hn : needs o need = true) (hd : doneB o m = true) : ∀ j, j ∈ need → m j = true := by
  intro j hj
  have h1 := List.all_eq_true.1 hn j hj
  obtain ⟨e, he, h2⟩ := Array.any_eq_true'.1 h1
  simp only [Bool.and_eq_true, beq_iff_eq] at h2
  have h3 := Array.all_eq_true'.1 hd e he
  rw [h2.1, h2.2] at h3
  simpa using h3
theorem step_plain (need : List Nat) (hn : needs o need = true) (hg : o.guard = none)
    (h : ∀ us w, G w → (∀ j, j ∈ need → V j (us j) w) → o.wp P (frame tab a us) w (fun a' w' => ∃ v, a' = (frame tab a us).put o.dst v ∧ G w' ∧ Below w.heap.size w w' ∧ V i v w') Q) : Step P L Q tab a G V i o := by
  intro m us w hG hV hd
  rw [if_pos (show Region.wanted o (yielded L.toArray (frame tab a us).tmps) = true by simp [Region.wanted, hg])]
  exact h us w hG fun j hj => hV j (need_ok hn hd j hj)
theorem step_guard (need : List Nat) (hn : needs o need = true) {j t : Nat} {b : Bool} (hg : o.guard = some (j, b)) (hj : j ∈ need) (hL : (L[j]?).bind (·.dst) = some t) (hl : tab.length = a.tmps.size) (ht : (tab[t]?).join = some j)
    (hv : ∀ v w, V j v w → v = .bool b)
    (h : ∀ us w, G w → (∀ j, j ∈ need → V j (us j) w) → o.wp P (frame tab a us) w (fun a' w' => ∃ v, a' = (frame tab a us).put o.dst v ∧ G w' ∧ Below w.heap.size w w' ∧ V i v w') Q) : Step P L Q tab a G V i o := by
  intro m us w hG hV hd
  have hy := yield_at (L := L) (us := us) hl hL ht (hv _ _ (hV j (need_ok hn hd j hj)))
  rw [if_pos (show Region.wanted o (yielded L.toArray (frame tab a us).tmps) = true by simp [Region.wanted, hg, hy])]
  exact h us w hG fun j hj => hV j (need_ok hn hd j hj)
theorem free_val {v : Value} (hr : (execOp a.eval o).run P w = .ok (.value v) w') (h : K (a.put o.dst v) w') : o.wp P a w K Q := by
  unfold Oper.wp; rw [hr]; exact h
theorem free_skip (hr : (execOp a.eval o).run P w = .ok .skip w') (h : K (a.put o.dst undef) w') : o.wp P a w K Q := by
  unfold Oper.wp; rw [hr]; exact h
theorem free_call {f : FuncId} {args : Array Value} (hr : (execOp a.eval o).run P w = .ok (.enter f args) w) (h : Calls P f args w fun e w' => ∃ v, e = .returned v ∧ K (a.put o.dst v) w') : o.wp P a w K Q := by
  unfold Oper.wp; rw [hr, Oper.upon_enter]
  exact h.mono fun e w' ⟨v, he, hk⟩ => by subst he; exact hk
theorem stepJ {J : (Nat → Bool) → (Nat → Value) → World → Prop} (need : List Nat) (hn : needs o need = true) (hg : o.guard = none)
    (h : ∀ m us w, J m us w → m i = false → (∀ j, j ∈ need → m j = true) → o.wp P (frame tab a us) w (fun a' w' => ∃ v, a' = (frame tab a us).put o.dst v ∧ J (upd m i true) (upd us i v) w') Q) : StepJ P L Q tab a J i o := by
  intro m us w hJ hmi hd
  rw [if_pos (show Region.wanted o (yielded L.toArray (frame tab a us).tmps) = true by simp [Region.wanted, hg])]
  exact h m us w hJ hmi (need_ok hn hd)
theorem val_J {R : Value → World → Prop} {fr : Act} {v : Value} (hr : (execOp fr.eval o).run P w = .ok (.value v) w') (hR : R v w') :
    o.wp P fr w (fun a' w' => ∃ v, a' = fr.put o.dst v ∧ R v w') Q := free_val hr ⟨v, rfl, hR⟩
theorem call_J {R : Value → World → Prop} {fr : Act} {f : FuncId} {args : Array Value} (hr : (execOp fr.eval o).run P w = .ok (.enter f args) w) (h : Calls P f args w fun e w' => ∃ v, e = .returned v ∧ R v w') :
    o.wp P fr w (fun a' w' => ∃ v, a' = fr.put o.dst v ∧ R v w') Q := free_call hr (h.mono fun e w' ⟨v, he, h1⟩ => ⟨v, he, v, rfl, h1⟩)
theorem load_J {R : Value → World → Prop} {fr : Act} (ty : TypeId) (s : Tmp) (ho : o.op = .load ty (.tmp s)) (g : Nat) (hx : fr.tmps[s]?.getD undef = .pointer (some ⟨g, 0, none⟩)) (t : TypeId) (cs : Array Value) (f : Nat × Nat) (d : TypeDesc) (hg : w.heap[g]? = some (.cells cs t f))
    (hu : P.underlying ty = some d) (hd : (match d with | .struct _ | .array _ _ => true | _ => false) = true) (hi : (P.info? ty).map (·.size) = some cs.size) (hR : R (.agg cs) w) :
    o.wp P fr w (fun a' w' => ∃ v, a' = fr.put o.dst v ∧ R v w') Q :=
  wp_load_row ty (.tmp s) ho g (by simpa only [Act.eval, Array.getD_eq_getD_getElem?] using hx) t cs f d hg hu hd hi ⟨_, rfl, hR⟩
theorem store_J {R : Value → World → Prop} {fr : Act} (ty : TypeId) (s x : Tmp) (ho : o.op = .store ty (.tmp s) (.tmp x)) (g : Nat) (cs : Array Value) (hs : fr.tmps[s]?.getD undef = .pointer (some ⟨g, 0, none⟩)) (hx : fr.tmps[x]?.getD undef = .agg cs)
    (t : TypeId) (old : Array Value) (hg : w.heap[g]? = some (.cells old t (0, 0))) (hi : (P.info? ty).map (·.size) = some cs.size) (hold : old.size = cs.size) (h1 : cs.all (·.oneCell') = true) (hR : R undef (w.setRow g cs)) :
    o.wp P fr w (fun a' w' => ∃ v, a' = fr.put o.dst v ∧ R v w') Q :=
  wp_store_row ty (.tmp s) (.tmp x) ho g cs (by simpa only [Act.eval, Array.getD_eq_getD_getElem?] using hs) (by simpa only [Act.eval, Array.getD_eq_getD_getElem?] using hx) t old hg hi hold h1 ⟨undef, rfl, hR⟩
/-- a load behind a guard that says yes -/
theorem wpList_load_rowG {ops : Array Oper} {rest : List Oper} {a : Act} (hw : Region.wanted o (yielded ops a.tmps) = true) (ty : TypeId) (x : Operand) (ho : o.op = .load ty x)
    (g : Nat) (hx : a.eval x = .pointer (some ⟨g, 0, none⟩)) (t : TypeId) (cs : Array Value) (fr : Nat × Nat) (d : TypeDesc) (hg : w.heap[g]? = some (.cells cs t fr))
    (hu : P.underlying ty = some d) (hd : (match d with | .struct _ | .array _ _ => true | _ => false) = true) (hi : (P.info? ty).map (·.size) = some cs.size)
    (h : wpList P ops Q rest (a.put o.dst (.agg cs)) w) : wpList P ops Q (o :: rest) a w := by
  refine wpList_step fun K hK => ?_
  rw [if_pos hw]
  exact wp_load_row ty x ho g hx t cs fr d hg hu hd hi (hK _ _ h)
theorem val_ok {fr : Act} {v : Value} (hr : (execOp fr.eval o).run P w = .ok (.value v) w') (hG : G w') (hb : Below w.heap.size w w') (hV : V i v w') :
    o.wp P fr w (fun a' w' => ∃ v, a' = fr.put o.dst v ∧ G w' ∧ Below w.heap.size w w' ∧ V i v w') Q := free_val hr ⟨v, rfl, hG, hb, hV⟩
theorem load_ok {fr : Act} (ty : TypeId) (s : Tmp) (ho : o.op = .load ty (.tmp s)) (g : Nat) (hx : fr.tmps[s]?.getD undef = .pointer (some ⟨g, 0, none⟩)) (t : TypeId) (cs : Array Value) (f : Nat × Nat) (d : TypeDesc) (hg : w.heap[g]? = some (.cells cs t f))
    (hu : P.underlying ty = some d) (hd : (match d with | .struct _ | .array _ _ => true | _ => false) = true) (hi : (P.info? ty).map (·.size) = some cs.size) (hG : G w) (hV : V i (.agg cs) w) :
    o.wp P fr w (fun a' w' => ∃ v, a' = fr.put o.dst v ∧ G w' ∧ Below w.heap.size w w' ∧ V i v w') Q :=
  wp_load_row ty (.tmp s) ho g (by simpa only [Act.eval, Array.getD_eq_getD_getElem?] using hx) t cs f d hg hu hd hi ⟨_, rfl, hG, Below.refl _ _, hV⟩
theorem call_ok {fr : Act} {f : FuncId} {args : Array Value} (hr : (execOp fr.eval o).run P w = .ok (.enter f args) w) (h : Calls P f args w fun e w' => ∃ v, e = .returned v ∧ G w' ∧ Below w.heap.size w w' ∧ V i v w') :
    o.wp P fr w (fun a' w' => ∃ v, a' = fr.put o.dst v ∧ G w' ∧ Below w.heap.size w w' ∧ V i v w') Q := free_call hr (h.mono fun e w' ⟨v, he, h1, h2, h3⟩ => ⟨v, he, v, rfl, h1, h2, h3⟩)
end
end Go.Proofs.Ytmbfgolcinniiaa.freeC

/-
  Regions that draw their order, in which some operations write (stores, appends), each waiting for the one before: a chain. All others only make memory, or read.
-/
namespace Go.Proofs.Ytmbfgolcinniiaa.freeC
open Go.ChangeShapes Go.WideShapes Go.ChangeAt Go.RowKit
set_option linter.unusedVariables false
section
variable {P : Program} {L : List Oper} {Q : Exit → Act → World → Prop}
/-- what is asked of an operation: of one that is no part of the chain C, that it makes memory alone; of the chain's p-th, that it leads from R p to R (p + 1) -/
def StepC (P : Program) (L : List Oper) (Q : Exit → Act → World → Prop) (tab : List (Option Nat)) (a : Act) (B : Nat) (C : List Nat) (G : World → Prop) (V : Nat → Value → World → Prop) (R : Nat → (Nat → Value) → World → Prop) (i : Nat) (o : Oper) : Prop :=
  ∀ (m : Nat → Bool) us w, B ≤ w.heap.size → G w → (∀ j, j ∉ C → m j = true → V j (us j) w) → doneB o m = true →
    (i ∉ C → if Region.wanted o (yielded L.toArray (frame tab a us).tmps) then o.wp P (frame tab a us) w (fun a' w' => ∃ v, a' = (frame tab a us).put o.dst v ∧ Below w.heap.size w w' ∧ V i v w') Q else V i undef w) ∧
    (∀ p, C[p]? = some i → R p us w → if Region.wanted o (yielded L.toArray (frame tab a us).tmps) then o.wp P (frame tab a us) w (fun a' w' => ∃ v, a' = (frame tab a us).put o.dst v ∧ Below B w w' ∧ R (p + 1) (upd us i v) w') Q else R (p + 1) (upd us i undef) w)
def links (L : List Oper) : List Nat → Bool
  | x :: y :: r => (match L[y]? with | some o => o.after.any fun e => Region.binds .any e && (e.on == x) | none => false) && links L (y :: r)
  | _ => true
theorem links_at {L : List Oper} : ∀ {C : List Nat}, links L C = true → ∀ p x y o, C[p]? = some x → C[p + 1]? = some y → L[y]? = some o → ∀ m, doneB o m = true → m x = true
  | [], _, p, x, y, o, h, _, _, _, _ => by simp at h
  | [z], _, p, x, y, o, _, h, _, _, _ => by simp at h
  | z :: z' :: r, hl, 0, x, y, o, h1, h2, ho, m, hd => by
    obtain rfl : z = x := by simpa using h1
    obtain rfl : z' = y := by simpa using h2
    simp only [links, Bool.and_eq_true, ho] at hl
    obtain ⟨e, he, h2⟩ := Array.any_eq_true'.1 hl.1
    simp only [Bool.and_eq_true, beq_iff_eq] at h2
    have h3 := Array.all_eq_true'.1 hd e he
    rw [h2.1, h2.2] at h3
    simpa using h3
  | z :: z' :: r, hl, p + 1, x, y, o, h1, h2, ho, m, hd => by
    simp only [links, Bool.and_eq_true] at hl
    exact links_at hl.2 p x y o (by simpa using h1) (by simpa using h2) ho m hd
theorem nodup_at {C : List Nat} (hnd : C.Nodup) {p q x : Nat} (hp : C[p]? = some x) (hq : C[q]? = some x) : p = q := by
  obtain ⟨hp1, hp2⟩ := List.getElem?_eq_some_iff.1 hp
  obtain ⟨hq1, hq2⟩ := List.getElem?_eq_some_iff.1 hq
  have h := List.pairwise_iff_getElem.1 hnd
  rcases Nat.lt_trichotomy p q with h1 | h1 | h1
  · exact absurd (hp2.trans hq2.symm) (h p q hp1 hq1 h1)
  · exact h1
  · exact absurd (hq2.trans hp2.symm) (h q p hq1 hp1 h1)
theorem wp_region_chain {id : Nat} {a : Act} {w : World} (hm : P.follows .mixedOrders = true) (tab : List (Option Nat)) (hb : backE L = true) (ht : slots tab L = true) (hl : tab.length = a.tmps.size)
    (us0 : Nat → Value) (ha : frame tab a us0 = a) (B : Nat) (C : List Nat) (hC : links L C = true) (hnd : C.Nodup) (hin : ∀ x ∈ C, x < L.length)
    (G : World → Prop) (V : Nat → Value → World → Prop) (R : Nat → (Nat → Value) → World → Prop) (hB : B ≤ w.heap.size) (hG : G w.drew) (h0 : R 0 us0 w.drew)
    (hkG : ∀ w w', B ≤ w.heap.size → Below B w w' → G w → G w') (hkV : ∀ i v w w', B ≤ w.heap.size → Below B w w' → V i v w → V i v w')
    (hkR : ∀ k us us' w w', (∀ x ∈ C, us' x = us x) → B ≤ w.heap.size → Below w.heap.size w w' → R k us w → R k us' w')
    (hstep : AllFrom (StepC P L Q tab a B C G V R) 0 L)
    (hend : ∀ us w, B ≤ w.heap.size → G w → (∀ i, i < L.length → i ∉ C → V i (us i) w) → R C.length us w → Q .normal (frame tab a us) w) : (Code.region id L.toArray true).wp P Q a w := by
  refine wp_region_free hm tab hb ht hl us0 ha (fun m us w => B ≤ w.heap.size ∧ G w ∧ (∀ j, j ∉ C → m j = true → V j (us j) w) ∧ ∃ k, k ≤ C.length ∧ (∀ j x, C[j]? = some x → (m x = true ↔ j < k)) ∧ R k us w)
    ⟨(by simpa using hB), hG, (fun j _ h => by cases h), 0, Nat.zero_le _, (fun j x _ => by simp), h0⟩ ?_ ?_
  · intro i o ho m us w' ⟨hb', hg, hv, k, hk, hcm, hr⟩ hmi hd
    have hs := all_from L 0 hstep i o ho m us w' hb' hg hv hd
    rw [Nat.zero_add] at hs
    by_cases hi : i ∈ C
    · obtain ⟨p, hp⟩ := List.getElem?_of_mem hi
      have hkp : k = p := by
        have h1 : ¬ p < k := fun h => by rw [(hcm p i hp).2 h] at hmi; cases hmi
        rcases Nat.eq_zero_or_pos p with h2 | h2
        · omega
        · obtain ⟨q, rfl⟩ : ∃ q, p = q + 1 := ⟨p - 1, by omega⟩
          have hq : q < C.length := by have := (List.getElem?_eq_some_iff.1 hp).1; omega
          have e := List.getElem?_eq_getElem hq
          have := (hcm q _ e).1 (links_at hC q _ i o e hp ho m hd)
          omega
      subst hkp
      have hs2 := hs.2 k hp hr
      have hset : ∀ v w'', Below B w' w'' → R (k + 1) (upd us i v) w'' → B ≤ w''.heap.size ∧ G w'' ∧ (∀ j, j ∉ C → upd m i true j = true → V j (upd us i v j) w'') ∧ ∃ k, k ≤ C.length ∧ (∀ j x, C[j]? = some x → (upd m i true x = true ↔ j < k)) ∧ R k (upd us i v) w'' := fun v w'' hb2 hr2 => by
        refine ⟨Nat.le_trans hb' hb2.size, hkG _ _ hb' hb2 hg, fun j hj hm' => ?_, k + 1, ?_, fun j x hx => ?_, hr2⟩
        · have hji : j ≠ i := fun e => hj (e ▸ hi)
          rw [upd_other _ _ hji] at hm' ⊢
          exact hkV _ _ _ _ hb' hb2 (hv j hj hm')
        · have := (List.getElem?_eq_some_iff.1 hp).1; omega
        · by_cases hx2 : x = i
          · subst hx2
            have hjk : j = k := nodup_at hnd hx hp
            rw [upd_same]; simp [hjk]
          · rw [upd_other _ _ hx2, hcm j x hx]
            have hjk : j ≠ k := fun e => by rw [e, hp] at hx; exact hx2 (Option.some.inj hx).symm
            omega
      split
      · rename_i hw
        rw [if_pos hw] at hs2
        refine Oper.wp_mono (fun a2 w2 h2 => ?_) hs2
        obtain ⟨v, ha, hb2, hr2⟩ := h2
        exact ⟨v, ha, hset v w2 hb2 hr2⟩
      · rename_i hw
        rw [if_neg hw] at hs2
        exact hset undef w' (Below.refl _ _) hs2
    · have hs1 := hs.1 hi
      have hset : ∀ v w'', Below w'.heap.size w' w'' → V i v w'' → B ≤ w''.heap.size ∧ G w'' ∧ (∀ j, j ∉ C → upd m i true j = true → V j (upd us i v j) w'') ∧ ∃ k, k ≤ C.length ∧ (∀ j x, C[j]? = some x → (upd m i true x = true ↔ j < k)) ∧ R k (upd us i v) w'' := fun v w'' hb2 hv2 => by
        have hb3 := hb2.mono hb'
        refine ⟨Nat.le_trans hb' hb2.size, hkG _ _ hb' hb3 hg, fun j hj hm' => ?_, k, hk, fun j x hx => ?_, hkR k us (upd us i v) w' w'' (fun x hx => ?_) hb' hb2 hr⟩
        · by_cases hji : j = i
          · subst hji; rw [upd_same]; exact hv2
          · rw [upd_other _ _ hji] at hm' ⊢
            exact hkV _ _ _ _ hb' hb3 (hv j hj hm')
        · have hxi : x ≠ i := fun e => hi (e ▸ List.mem_of_getElem? hx)
          rw [upd_other _ _ hxi]; exact hcm j x hx
        · have hxi : x ≠ i := fun e => hi (e ▸ hx)
          rw [upd_other _ _ hxi]
      split
      · rename_i hw
        rw [if_pos hw] at hs1
        refine Oper.wp_mono (fun a2 w2 h2 => ?_) hs1
        obtain ⟨v, ha, hb2, hv2⟩ := h2
        exact ⟨v, ha, hset v w2 hb2 hv2⟩
      · rename_i hw
        rw [if_neg hw] at hs1
        exact hset undef w' (Below.refl _ _) hs1
  · intro m us w' hm' ⟨hb', hg, hv, k, hk, hcm, hr⟩
    have hkl : k = C.length := by
      rcases Nat.lt_or_ge k C.length with h | h
      · have e := List.getElem?_eq_getElem h
        have := (hcm k _ e).1 (hm' _ (hin _ (List.getElem_mem h)))
        omega
      · omega
    subst hkl
    exact hend us w' hb' hg (fun i hi hc => hv i hc (hm' i hi)) hr
variable {o : Oper} {a : Act} {tab : List (Option Nat)} {B : Nat} {C : List Nat} {G : World → Prop} {V : Nat → Value → World → Prop} {R : Nat → (Nat → Value) → World → Prop} {i : Nat}
/-- an operation that only makes memory -/
theorem stepC_val (need : List Nat) (hn : needs o need = true) (hc : (need.all fun j => !C.contains j) = true) (hi : C.contains i = false) (hg : o.guard = none)
    (h : ∀ us w, B ≤ w.heap.size → G w → (∀ j, j ∈ need → V j (us j) w) → o.wp P (frame tab a us) w (fun a' w' => ∃ v, a' = (frame tab a us).put o.dst v ∧ Below w.heap.size w w' ∧ V i v w') Q) : StepC P L Q tab a B C G V R i o := by
  intro m us w hB hG hV hd
  have hiC : i ∉ C := fun e => by rw [List.contains_iff_mem.2 e] at hi; cases hi
  refine ⟨fun _ => ?_, fun p hp => absurd (List.mem_of_getElem? hp) hiC⟩
  rw [if_pos (show Region.wanted o (yielded L.toArray (frame tab a us).tmps) = true by simp [Region.wanted, hg])]
  exact h us w hB hG fun j hj => hV j (fun e => by have h1 := List.all_eq_true.1 hc j hj; rw [List.contains_iff_mem.2 e] at h1; cases h1) (need_ok hn hd j hj)
/-- .. behind a guard that says b, as is known -/
theorem stepC_guard (need : List Nat) (hn : needs o need = true) (hc : (need.all fun j => !C.contains j) = true) (hi : C.contains i = false) {j t : Nat} {b : Bool} (hg : o.guard = some (j, b)) (hj : j ∈ need) (hL : (L[j]?).bind (·.dst) = some t) (hl : tab.length = a.tmps.size) (ht : (tab[t]?).join = some j)
    (hv : ∀ v w, V j v w → v = .bool b)
    (h : ∀ us w, B ≤ w.heap.size → G w → (∀ j, j ∈ need → V j (us j) w) → o.wp P (frame tab a us) w (fun a' w' => ∃ v, a' = (frame tab a us).put o.dst v ∧ Below w.heap.size w w' ∧ V i v w') Q) : StepC P L Q tab a B C G V R i o := by
  intro m us w hB hG hV hd
  have hiC : i ∉ C := fun e => by rw [List.contains_iff_mem.2 e] at hi; cases hi
  have hV2 : ∀ j, j ∈ need → V j (us j) w := fun j hj => hV j (fun e => by have h1 := List.all_eq_true.1 hc j hj; rw [List.contains_iff_mem.2 e] at h1; cases h1) (need_ok hn hd j hj)
  refine ⟨fun _ => ?_, fun p hp => absurd (List.mem_of_getElem? hp) hiC⟩
  have hy := yield_at (L := L) (us := us) hl hL ht (hv _ _ (hV2 j hj))
  rw [if_pos (show Region.wanted o (yielded L.toArray (frame tab a us).tmps) = true by simp [Region.wanted, hg, hy])]
  exact h us w hB hG hV2
/-- .. that is not wanted -/
theorem stepC_skip (need : List Nat) (hn : needs o need = true) (hc : (need.all fun j => !C.contains j) = true) (hi : C.contains i = false) {j t : Nat} {b : Bool} (hg : o.guard = some (j, b)) (hj : j ∈ need) (hL : (L[j]?).bind (·.dst) = some t) (hl : tab.length = a.tmps.size) (ht : (tab[t]?).join = some j)
    (hv : ∀ v w, V j v w → v = .bool !b) (h : ∀ w, V i undef w) : StepC P L Q tab a B C G V R i o := by
  intro m us w hB hG hV hd
  have hiC : i ∉ C := fun e => by rw [List.contains_iff_mem.2 e] at hi; cases hi
  have hV2 : ∀ j, j ∈ need → V j (us j) w := fun j hj => hV j (fun e => by have h1 := List.all_eq_true.1 hc j hj; rw [List.contains_iff_mem.2 e] at h1; cases h1) (need_ok hn hd j hj)
  refine ⟨fun _ => ?_, fun p hp => absurd (List.mem_of_getElem? hp) hiC⟩
  have hy := yield_at (L := L) (us := us) hl hL ht (hv _ _ (hV2 j hj))
  rw [if_neg (by simp [Region.wanted, hg, hy])]
  exact h w
/-- the chain's p-th -/
theorem stepC_chain (p : Nat) (hp : C[p]? = some i) (hnd : C.Nodup) (need : List Nat) (hn : needs o need = true) (hc : (need.all fun j => !C.contains j) = true) (hg : o.guard = none)
    (h : ∀ us w, B ≤ w.heap.size → G w → (∀ j, j ∈ need → V j (us j) w) → R p us w → o.wp P (frame tab a us) w (fun a' w' => ∃ v, a' = (frame tab a us).put o.dst v ∧ Below B w w' ∧ R (p + 1) (upd us i v) w') Q) : StepC P L Q tab a B C G V R i o := by
  intro m us w hB hG hV hd
  refine ⟨fun hi => absurd (List.mem_of_getElem? hp) hi, fun q hq hr => ?_⟩
  have hqp : q = p := nodup_at hnd hq hp
  subst hqp
  rw [if_pos (show Region.wanted o (yielded L.toArray (frame tab a us).tmps) = true by simp [Region.wanted, hg])]
  exact h us w hB hG (fun j hj => hV j (fun e => by have h1 := List.all_eq_true.1 hc j hj; rw [List.contains_iff_mem.2 e] at h1; cases h1) (need_ok hn hd j hj)) hr
/-- .. behind a guard that says b, as is known -/
theorem stepC_chainG (p : Nat) (hp : C[p]? = some i) (hnd : C.Nodup) (need : List Nat) (hn : needs o need = true) (hc : (need.all fun j => !C.contains j) = true) {j t : Nat} {b : Bool} (hg : o.guard = some (j, b)) (hj : j ∈ need) (hL : (L[j]?).bind (·.dst) = some t) (hl : tab.length = a.tmps.size) (ht : (tab[t]?).join = some j)
    (hv : ∀ v w, V j v w → v = .bool b)
    (h : ∀ us w, B ≤ w.heap.size → G w → (∀ j, j ∈ need → V j (us j) w) → R p us w → o.wp P (frame tab a us) w (fun a' w' => ∃ v, a' = (frame tab a us).put o.dst v ∧ Below B w w' ∧ R (p + 1) (upd us i v) w') Q) : StepC P L Q tab a B C G V R i o := by
  intro m us w hB hG hV hd
  have hV2 : ∀ j, j ∈ need → V j (us j) w := fun j hj => hV j (fun e => by have h1 := List.all_eq_true.1 hc j hj; rw [List.contains_iff_mem.2 e] at h1; cases h1) (need_ok hn hd j hj)
  refine ⟨fun hi => absurd (List.mem_of_getElem? hp) hi, fun q hq hr => ?_⟩
  have hqp : q = p := nodup_at hnd hq hp
  subst hqp
  have hy := yield_at (L := L) (us := us) hl hL ht (hv _ _ (hV2 j hj))
  rw [if_pos (show Region.wanted o (yielded L.toArray (frame tab a us).tmps) = true by simp [Region.wanted, hg, hy])]
  exact h us w hB hG hV2 hr
variable {w w' : World} {K : Act → World → Prop}
/-- an operation that answers a value at once, in such a region -/
theorem val_C {fr : Act} {v : Value} (hr : (execOp fr.eval o).run P w = .ok (.value v) w') (hb : Below w.heap.size w w') (hV : V i v w') :
    o.wp P fr w (fun a' w' => ∃ v, a' = fr.put o.dst v ∧ Below w.heap.size w w' ∧ V i v w') Q := free_val hr ⟨v, rfl, hb, hV⟩
theorem load_C {fr : Act} (ty : TypeId) (s : Tmp) (ho : o.op = .load ty (.tmp s)) (g : Nat) (hx : fr.tmps[s]?.getD undef = .pointer (some ⟨g, 0, none⟩)) (t : TypeId) (cs : Array Value) (f : Nat × Nat) (d : TypeDesc) (hg : w.heap[g]? = some (.cells cs t f))
    (hu : P.underlying ty = some d) (hd : (match d with | .struct _ | .array _ _ => true | _ => false) = true) (hi : (P.info? ty).map (·.size) = some cs.size) (hV : V i (.agg cs) w) :
    o.wp P fr w (fun a' w' => ∃ v, a' = fr.put o.dst v ∧ Below w.heap.size w w' ∧ V i v w') Q :=
  wp_load_row ty (.tmp s) ho g (by simpa only [Act.eval, Array.getD_eq_getD_getElem?] using hx) t cs f d hg hu hd hi ⟨_, rfl, Below.refl _ _, hV⟩
theorem call_C {fr : Act} {f : FuncId} {args : Array Value} (hr : (execOp fr.eval o).run P w = .ok (.enter f args) w) (h : Calls P f args w fun e w' => ∃ v, e = .returned v ∧ Below w.heap.size w w' ∧ V i v w') :
    o.wp P fr w (fun a' w' => ∃ v, a' = fr.put o.dst v ∧ Below w.heap.size w w' ∧ V i v w') Q := free_call hr (h.mono fun e w' ⟨v, he, h2, h3⟩ => ⟨v, he, v, rfl, h2, h3⟩)
end
end Go.Proofs.Ytmbfgolcinniiaa.freeC

/-
  Regions that draw their order, in which some operations write, each waiting for the one before (as in Chn); what the writes do is told by a relation D, so that values of the others (a literal that was just laid) may speak of what D leaves alone.
-/
namespace Go.Proofs.Ytmbfgolcinniiaa.freeC
open Go.ChangeShapes Go.WideShapes Go.ChangeAt Go.RowKit
set_option linter.unusedVariables false
/-- nothing turned but block g -/
def OnlyAt (g : Nat) (w w' : World) : Prop := Below g w w' ∧ ∀ k, k ≠ g → w'.heap[k]? = w.heap[k]?
theorem OnlyAt.setRow (g : Nat) (w : World) (cs : Array Value) : OnlyAt g w (w.setRow g cs) := ⟨⟨rfl, rfl, rfl, by simp, fun k hk => setRow_other _ _ _ _ (by omega)⟩, fun k hk => setRow_other _ _ _ _ hk⟩
theorem OnlyAt.refl (g : Nat) (w : World) : OnlyAt g w w := ⟨Below.refl _ _, fun _ _ => rfl⟩
/-- a row that is not g stands -/
theorem keep_row {g k : Nat} {w w' : World} {o : Obj} (hd : Below w.heap.size w w' ∨ OnlyAt g w w') (hk : k ≠ g) (h : w.heap[k]? = some o) : w'.heap[k]? = some o := by
  have hl : k < w.heap.size := by
    rcases Nat.lt_or_ge k w.heap.size with h' | h'
    · exact h'
    · rw [Array.getElem?_eq_none h'] at h; cases h
  rcases hd with hd | hd
  · rw [hd.block k hl]; exact h
  · rw [hd.2 k hk]; exact h
/-- what lies below g stands -/
theorem keep_below {g B : Nat} {w0 w w' : World} (hd : Below w.heap.size w w' ∨ OnlyAt g w w') (hB : B ≤ g) (hw : B ≤ w.heap.size) (h : Below B w0 w) : Below B w0 w' := by
  rcases hd with hd | hd
  · exact h.trans (hd.mono hw)
  · exact h.trans (hd.1.mono hB)
section
variable {P : Program} {L : List Oper} {Q : Exit → Act → World → Prop}
/-- what is asked of an operation: of one that is no part of the chain C, that it makes memory alone; of the chain's p-th, that it leads from R p to R (p + 1) -/
def StepD (P : Program) (L : List Oper) (Q : Exit → Act → World → Prop) (tab : List (Option Nat)) (a : Act) (B : Nat) (D : World → World → Prop) (C : List Nat) (G : World → Prop) (V : Nat → Value → World → Prop) (R : Nat → (Nat → Value) → World → Prop) (i : Nat) (o : Oper) : Prop :=
  ∀ (m : Nat → Bool) us w, B ≤ w.heap.size → G w → (∀ j, j ∉ C → m j = true → V j (us j) w) → doneB o m = true →
    (i ∉ C → if Region.wanted o (yielded L.toArray (frame tab a us).tmps) then o.wp P (frame tab a us) w (fun a' w' => ∃ v, a' = (frame tab a us).put o.dst v ∧ Below w.heap.size w w' ∧ V i v w') Q else V i undef w) ∧
    (∀ p, C[p]? = some i → R p us w → if Region.wanted o (yielded L.toArray (frame tab a us).tmps) then o.wp P (frame tab a us) w (fun a' w' => ∃ v, a' = (frame tab a us).put o.dst v ∧ (D w w' ∧ Below B w w') ∧ R (p + 1) (upd us i v) w') Q else R (p + 1) (upd us i undef) w)
theorem wp_region_chd {id : Nat} {a : Act} {w : World} (hm : P.follows .mixedOrders = true) (tab : List (Option Nat)) (hb : backE L = true) (ht : slots tab L = true) (hl : tab.length = a.tmps.size)
    (us0 : Nat → Value) (ha : frame tab a us0 = a) (B : Nat) (D : World → World → Prop) (C : List Nat) (hC : links L C = true) (hnd : C.Nodup) (hin : ∀ x ∈ C, x < L.length)
    (G : World → Prop) (V : Nat → Value → World → Prop) (R : Nat → (Nat → Value) → World → Prop) (hB : B ≤ w.heap.size) (hG : G w.drew) (h0 : R 0 us0 w.drew)
    (hkG : ∀ w w', B ≤ w.heap.size → (Below w.heap.size w w' ∨ D w w') → G w → G w') (hkV : ∀ i v w w', B ≤ w.heap.size → (Below w.heap.size w w' ∨ D w w') → V i v w → V i v w')
    (hkR : ∀ k us us' w w', (∀ x ∈ C, us' x = us x) → B ≤ w.heap.size → Below w.heap.size w w' → R k us w → R k us' w')
    (hstep : AllFrom (StepD P L Q tab a B D C G V R) 0 L)
    (hend : ∀ us w, B ≤ w.heap.size → G w → (∀ i, i < L.length → i ∉ C → V i (us i) w) → R C.length us w → Q .normal (frame tab a us) w) : (Code.region id L.toArray true).wp P Q a w := by
  refine wp_region_free hm tab hb ht hl us0 ha (fun m us w => B ≤ w.heap.size ∧ G w ∧ (∀ j, j ∉ C → m j = true → V j (us j) w) ∧ ∃ k, k ≤ C.length ∧ (∀ j x, C[j]? = some x → (m x = true ↔ j < k)) ∧ R k us w)
    ⟨(by simpa using hB), hG, (fun j _ h => by cases h), 0, Nat.zero_le _, (fun j x _ => by simp), h0⟩ ?_ ?_
  · intro i o ho m us w' ⟨hb', hg, hv, k, hk, hcm, hr⟩ hmi hd
    have hs := all_from L 0 hstep i o ho m us w' hb' hg hv hd
    rw [Nat.zero_add] at hs
    by_cases hi : i ∈ C
    · obtain ⟨p, hp⟩ := List.getElem?_of_mem hi
      have hkp : k = p := by
        have h1 : ¬ p < k := fun h => by rw [(hcm p i hp).2 h] at hmi; cases hmi
        rcases Nat.eq_zero_or_pos p with h2 | h2
        · omega
        · obtain ⟨q, rfl⟩ : ∃ q, p = q + 1 := ⟨p - 1, by omega⟩
          have hq : q < C.length := by have := (List.getElem?_eq_some_iff.1 hp).1; omega
          have e := List.getElem?_eq_getElem hq
          have := (hcm q _ e).1 (links_at hC q _ i o e hp ho m hd)
          omega
      subst hkp
      have hs2 := hs.2 k hp hr
      have hset : ∀ v w'', (w'' = w' ∨ D w' w'') → Below B w' w'' → R (k + 1) (upd us i v) w'' → B ≤ w''.heap.size ∧ G w'' ∧ (∀ j, j ∉ C → upd m i true j = true → V j (upd us i v j) w'') ∧ ∃ k, k ≤ C.length ∧ (∀ j x, C[j]? = some x → (upd m i true x = true ↔ j < k)) ∧ R k (upd us i v) w'' := fun v w'' hd2 hb2 hr2 => by
        refine ⟨Nat.le_trans hb' hb2.size, (by rcases hd2 with rfl | hd2
                                               · exact hg
                                               · exact hkG _ _ hb' (.inr hd2) hg), fun j hj hm' => ?_, k + 1, ?_, fun j x hx => ?_, hr2⟩
        · have hji : j ≠ i := fun e => hj (e ▸ hi)
          rw [upd_other _ _ hji] at hm' ⊢
          rcases hd2 with rfl | hd2
          · exact hv j hj hm'
          · exact hkV _ _ _ _ hb' (.inr hd2) (hv j hj hm')
        · have := (List.getElem?_eq_some_iff.1 hp).1; omega
        · by_cases hx2 : x = i
          · subst hx2
            have hjk : j = k := nodup_at hnd hx hp
            rw [upd_same]; simp [hjk]
          · rw [upd_other _ _ hx2, hcm j x hx]
            have hjk : j ≠ k := fun e => by rw [e, hp] at hx; exact hx2 (Option.some.inj hx).symm
            omega
      split
      · rename_i hw
        rw [if_pos hw] at hs2
        refine Oper.wp_mono (fun a2 w2 h2 => ?_) hs2
        obtain ⟨v, ha, ⟨hd2, hb2⟩, hr2⟩ := h2
        exact ⟨v, ha, hset v w2 (.inr hd2) hb2 hr2⟩
      · rename_i hw
        rw [if_neg hw] at hs2
        exact hset undef w' (.inl rfl) (Below.refl _ _) hs2
    · have hs1 := hs.1 hi
      have hset : ∀ v w'', Below w'.heap.size w' w'' → V i v w'' → B ≤ w''.heap.size ∧ G w'' ∧ (∀ j, j ∉ C → upd m i true j = true → V j (upd us i v j) w'') ∧ ∃ k, k ≤ C.length ∧ (∀ j x, C[j]? = some x → (upd m i true x = true ↔ j < k)) ∧ R k (upd us i v) w'' := fun v w'' hb2 hv2 => by
        have hb3 := hb2.mono hb'
        refine ⟨Nat.le_trans hb' hb2.size, hkG _ _ hb' (.inl hb2) hg, fun j hj hm' => ?_, k, hk, fun j x hx => ?_, hkR k us (upd us i v) w' w'' (fun x hx => ?_) hb' hb2 hr⟩
        · by_cases hji : j = i
          · subst hji; rw [upd_same]; exact hv2
          · rw [upd_other _ _ hji] at hm' ⊢
            exact hkV _ _ _ _ hb' (.inl hb2) (hv j hj hm')
        · have hxi : x ≠ i := fun e => hi (e ▸ List.mem_of_getElem? hx)
          rw [upd_other _ _ hxi]; exact hcm j x hx
        · have hxi : x ≠ i := fun e => hi (e ▸ hx)
          rw [upd_other _ _ hxi]
      split
      · rename_i hw
        rw [if_pos hw] at hs1
        refine Oper.wp_mono (fun a2 w2 h2 => ?_) hs1
        obtain ⟨v, ha, hb2, hv2⟩ := h2
        exact ⟨v, ha, hset v w2 hb2 hv2⟩
      · rename_i hw
        rw [if_neg hw] at hs1
        exact hset undef w' (Below.refl _ _) hs1
  · intro m us w' hm' ⟨hb', hg, hv, k, hk, hcm, hr⟩
    have hkl : k = C.length := by
      rcases Nat.lt_or_ge k C.length with h | h
      · have e := List.getElem?_eq_getElem h
        have := (hcm k _ e).1 (hm' _ (hin _ (List.getElem_mem h)))
        omega
      · omega
    subst hkl
    exact hend us w' hb' hg (fun i hi hc => hv i hc (hm' i hi)) hr
variable {o : Oper} {a : Act} {tab : List (Option Nat)} {B : Nat} {D : World → World → Prop} {C : List Nat} {G : World → Prop} {V : Nat → Value → World → Prop} {R : Nat → (Nat → Value) → World → Prop} {i : Nat}
/-- an operation that only makes memory -/
theorem stepD_val (need : List Nat) (hn : needs o need = true) (hc : (need.all fun j => !C.contains j) = true) (hi : C.contains i = false) (hg : o.guard = none)
    (h : ∀ us w, B ≤ w.heap.size → G w → (∀ j, j ∈ need → V j (us j) w) → o.wp P (frame tab a us) w (fun a' w' => ∃ v, a' = (frame tab a us).put o.dst v ∧ Below w.heap.size w w' ∧ V i v w') Q) : StepD P L Q tab a B D C G V R i o := by
  intro m us w hB hG hV hd
  have hiC : i ∉ C := fun e => by rw [List.contains_iff_mem.2 e] at hi; cases hi
  refine ⟨fun _ => ?_, fun p hp => absurd (List.mem_of_getElem? hp) hiC⟩
  rw [if_pos (show Region.wanted o (yielded L.toArray (frame tab a us).tmps) = true by simp [Region.wanted, hg])]
  exact h us w hB hG fun j hj => hV j (fun e => by have h1 := List.all_eq_true.1 hc j hj; rw [List.contains_iff_mem.2 e] at h1; cases h1) (need_ok hn hd j hj)
/-- .. behind a guard that says b, as is known -/
theorem stepD_guard (need : List Nat) (hn : needs o need = true) (hc : (need.all fun j => !C.contains j) = true) (hi : C.contains i = false) {j t : Nat} {b : Bool} (hg : o.guard = some (j, b)) (hj : j ∈ need) (hL : (L[j]?).bind (·.dst) = some t) (hl : tab.length = a.tmps.size) (ht : (tab[t]?).join = some j)
    (hv : ∀ v w, V j v w → v = .bool b)
    (h : ∀ us w, B ≤ w.heap.size → G w → (∀ j, j ∈ need → V j (us j) w) → o.wp P (frame tab a us) w (fun a' w' => ∃ v, a' = (frame tab a us).put o.dst v ∧ Below w.heap.size w w' ∧ V i v w') Q) : StepD P L Q tab a B D C G V R i o := by
  intro m us w hB hG hV hd
  have hiC : i ∉ C := fun e => by rw [List.contains_iff_mem.2 e] at hi; cases hi
  have hV2 : ∀ j, j ∈ need → V j (us j) w := fun j hj => hV j (fun e => by have h1 := List.all_eq_true.1 hc j hj; rw [List.contains_iff_mem.2 e] at h1; cases h1) (need_ok hn hd j hj)
  refine ⟨fun _ => ?_, fun p hp => absurd (List.mem_of_getElem? hp) hiC⟩
  have hy := yield_at (L := L) (us := us) hl hL ht (hv _ _ (hV2 j hj))
  rw [if_pos (show Region.wanted o (yielded L.toArray (frame tab a us).tmps) = true by simp [Region.wanted, hg, hy])]
  exact h us w hB hG hV2
/-- .. that is not wanted -/
theorem stepD_skip (need : List Nat) (hn : needs o need = true) (hc : (need.all fun j => !C.contains j) = true) (hi : C.contains i = false) {j t : Nat} {b : Bool} (hg : o.guard = some (j, b)) (hj : j ∈ need) (hL : (L[j]?).bind (·.dst) = some t) (hl : tab.length = a.tmps.size) (ht : (tab[t]?).join = some j)
    (hv : ∀ v w, V j v w → v = .bool !b) (h : ∀ w, V i undef w) : StepD P L Q tab a B D C G V R i o := by
  intro m us w hB hG hV hd
  have hiC : i ∉ C := fun e => by rw [List.contains_iff_mem.2 e] at hi; cases hi
  have hV2 : ∀ j, j ∈ need → V j (us j) w := fun j hj => hV j (fun e => by have h1 := List.all_eq_true.1 hc j hj; rw [List.contains_iff_mem.2 e] at h1; cases h1) (need_ok hn hd j hj)
  refine ⟨fun _ => ?_, fun p hp => absurd (List.mem_of_getElem? hp) hiC⟩
  have hy := yield_at (L := L) (us := us) hl hL ht (hv _ _ (hV2 j hj))
  rw [if_neg (by simp [Region.wanted, hg, hy])]
  exact h w
/-- the chain's p-th -/
theorem stepD_chain (p : Nat) (hp : C[p]? = some i) (hnd : C.Nodup) (need : List Nat) (hn : needs o need = true) (hc : (need.all fun j => !C.contains j) = true) (hg : o.guard = none)
    (h : ∀ us w, B ≤ w.heap.size → G w → (∀ j, j ∈ need → V j (us j) w) → R p us w → o.wp P (frame tab a us) w (fun a' w' => ∃ v, a' = (frame tab a us).put o.dst v ∧ (D w w' ∧ Below B w w') ∧ R (p + 1) (upd us i v) w') Q) : StepD P L Q tab a B D C G V R i o := by
  intro m us w hB hG hV hd
  refine ⟨fun hi => absurd (List.mem_of_getElem? hp) hi, fun q hq hr => ?_⟩
  have hqp : q = p := nodup_at hnd hq hp
  subst hqp
  rw [if_pos (show Region.wanted o (yielded L.toArray (frame tab a us).tmps) = true by simp [Region.wanted, hg])]
  exact h us w hB hG (fun j hj => hV j (fun e => by have h1 := List.all_eq_true.1 hc j hj; rw [List.contains_iff_mem.2 e] at h1; cases h1) (need_ok hn hd j hj)) hr
/-- .. behind a guard that says b, as is known -/
theorem stepD_chainG (p : Nat) (hp : C[p]? = some i) (hnd : C.Nodup) (need : List Nat) (hn : needs o need = true) (hc : (need.all fun j => !C.contains j) = true) {j t : Nat} {b : Bool} (hg : o.guard = some (j, b)) (hj : j ∈ need) (hL : (L[j]?).bind (·.dst) = some t) (hl : tab.length = a.tmps.size) (ht : (tab[t]?).join = some j)
    (hv : ∀ v w, V j v w → v = .bool b)
    (h : ∀ us w, B ≤ w.heap.size → G w → (∀ j, j ∈ need → V j (us j) w) → R p us w → o.wp P (frame tab a us) w (fun a' w' => ∃ v, a' = (frame tab a us).put o.dst v ∧ (D w w' ∧ Below B w w') ∧ R (p + 1) (upd us i v) w') Q) : StepD P L Q tab a B D C G V R i o := by
  intro m us w hB hG hV hd
  have hV2 : ∀ j, j ∈ need → V j (us j) w := fun j hj => hV j (fun e => by have h1 := List.all_eq_true.1 hc j hj; rw [List.contains_iff_mem.2 e] at h1; cases h1) (need_ok hn hd j hj)
  refine ⟨fun hi => absurd (List.mem_of_getElem? hp) hi, fun q hq hr => ?_⟩
  have hqp : q = p := nodup_at hnd hq hp
  subst hqp
  have hy := yield_at (L := L) (us := us) hl hL ht (hv _ _ (hV2 j hj))
  rw [if_pos (show Region.wanted o (yielded L.toArray (frame tab a us).tmps) = true by simp [Region.wanted, hg, hy])]
  exact h us w hB hG hV2 hr
end
end Go.Proofs.Ytmbfgolcinniiaa.freeC
