/-
  1 texts of a proof, joined.
-/
import Derived.Test.YtdoahlhkbhpgpaaDoorMg5
import Derived.Deep.Matrix

namespace Go.Proofs.YtdoahlhkbhpgpaaDoor.wpartC
open Go.ChangeShapes Go.WideShapes Go.ChangeAt Go.RowKit
open Go.Proofs.YtdoahlhkbhpgpaaDoor.memC Go.Proofs.YtdoahlhkbhpgpaaDoor.genC Go.Proofs.YtdoahlhkbhpgpaaDoor.butC
open Go.Proofs.YtdoahlhkbhpgpaaDoor.adC (W16)
set_option linter.unusedVariables false
/-- a part: a slice, and what it holds -/
structure Part where
  A : Option Addr
  n : Nat
  c : Nat
  bs : List Int
/-- a part that lies in memory below B -/
structure PartAt (w : World) (B : Nat) (p : Part) : Prop where
  nums : Nums .u16 w B p.A p.n p.bs
  few : p.n ≤ 10000
  byte : ∀ x ∈ p.bs, W16 x
  cap : p.n ≤ p.c
  max : p.c ≤ 9223372036854775807
theorem PartAt.heap {w w' : World} {B : Nat} {p : Part} (h : PartAt w B p) (e : w'.heap = w.heap) : PartAt w' B p := ⟨h.nums.heap e, h.few, h.byte, h.cap, h.max⟩
theorem PartAt.below {w w' : World} {B B' : Nat} {p : Part} (h : PartAt w B p) (hb : Below B w w') (hB : B ≤ B') : PartAt w' B' p := ⟨(h.nums.below hb).more hB, h.few, h.byte, h.cap, h.max⟩
/-- parts that lie in a row -/
structure Parts (w : World) (B : Nat) (P : Option Addr) (ps : List Part) : Prop where
  at_ : 0 < ps.length → ∃ b o, P = some ⟨b, o, none⟩ ∧ b < B ∧ ∀ i (h : i < ps.length), w.cell? ⟨b, o + i, none⟩ = some (.slice ps[i].A ps[i].n ps[i].c)
  all : ∀ p ∈ ps, PartAt w B p
theorem Parts.cell {w : World} {B : Nat} {P : Option Addr} {ps : List Part} (h : Parts w B P ps) {i : Nat} (hi : i < ps.length) :
    ∃ b o, P = some ⟨b, o, none⟩ ∧ b < B ∧ w.cell? ⟨b, o + i, none⟩ = some (.slice ps[i].A ps[i].n ps[i].c) ∧ PartAt w B ps[i] := by
  obtain ⟨b, o, e, hb, hc⟩ := h.at_ (by omega)
  exact ⟨b, o, e, hb, hc i hi, h.all _ (List.getElem_mem _)⟩
theorem Parts.below {w w' : World} {B B' : Nat} {P : Option Addr} {ps : List Part} (h : Parts w B P ps) (hb : Below B w w') (hB : B ≤ B') : Parts w' B' P ps :=
  ⟨fun hl => by
    obtain ⟨b, o, e1, hbb, hc⟩ := h.at_ hl
    exact ⟨b, o, e1, by omega, fun i hi => (hb.cell (p := ⟨b, o + i, none⟩) hbb).trans (hc i hi)⟩, fun p hp => (h.all p hp).below hb hB⟩
theorem Parts.heap {w w' : World} {B : Nat} {P : Option Addr} {ps : List Part} (h : Parts w B P ps) (e : w'.heap = w.heap) : Parts w' B P ps :=
  ⟨fun hl => by
    obtain ⟨b, o, e1, hb, hc⟩ := h.at_ hl
    exact ⟨b, o, e1, hb, fun i hi => (World.cell?_of_block (w := w) (w' := w') (by rw [e])).trans (hc i hi)⟩, fun p hp => (h.all p hp).heap e⟩
/-- how many bytes they have -/
def nsum : List Part → Nat
  | [] => 0
  | p :: r => p.n + nsum r
theorem nsum_append : ∀ (a b : List Part), nsum (a ++ b) = nsum a + nsum b
  | [], b => by simp [nsum]
  | p :: r, b => by rw [List.cons_append, nsum, nsum, nsum_append r b]; omega
theorem nsum_snoc (ps : List Part) (k : Nat) (h : k < ps.length) : nsum (ps.take (k + 1)) = nsum (ps.take k) + ps[k].n := by
  rw [List.take_succ_eq_append_getElem h, nsum_append]; simp [nsum]
theorem nsum_take (ps : List Part) (k : Nat) : nsum (ps.take k) ≤ nsum ps := by
  have h := nsum_append (ps.take k) (ps.drop k)
  rw [List.take_append_drop] at h
  omega
/-- all their bytes -/
def catL (ps : List Part) : List Int := ps.flatMap Part.bs
theorem catL_snoc (ps : List Part) (k : Nat) (h : k < ps.length) : catL (ps.take (k + 1)) = catL (ps.take k) ++ ps[k].bs := by
  rw [List.take_succ_eq_append_getElem h, catL, List.flatMap_append]; simp [catL]
theorem catL_len {w : World} {B : Nat} : ∀ (ps : List Part), (∀ p ∈ ps, PartAt w B p) → (catL ps).length = nsum ps
  | [], _ => rfl
  | p :: r, h => by
    have h1 := (h p (by simp)).nums.len
    have h2 := catL_len r fun q hq => h q (by simp [hq])
    show (p.bs ++ catL r).length = _
    rw [List.length_append, h1, h2]; rfl
theorem PartAt.alloc {w : World} {p : Part} (h : PartAt w w.heap.size p) (o : Obj) : PartAt (w.alloc o) (w.alloc o).heap.size p := h.below (alloc_below w o) (alloc_below w o).size
theorem parts3 {w : World} {A A' A2 : Option Addr} {n c n' c' n2 c2 : Nat} {bs bs' bs2 : List Int} (h : PartAt w w.heap.size ⟨A, n, c, bs⟩) (h' : PartAt w w.heap.size ⟨A', n', c', bs'⟩) (h2 : PartAt w w.heap.size ⟨A2, n2, c2, bs2⟩) (T : TypeId) :
    Parts (w.alloc (.cells #[.slice A n c, .slice A' n' c', .slice A2 n2 c2] T)) (w.alloc (.cells #[.slice A n c, .slice A' n' c', .slice A2 n2 c2] T)).heap.size (some ⟨w.heap.size, 0, none⟩) [⟨A, n, c, bs⟩, ⟨A', n', c', bs'⟩, ⟨A2, n2, c2, bs2⟩] := by
  refine ⟨fun _ => ⟨_, 0, rfl, by rw [alloc_size]; exact Nat.lt_succ_self _, fun i hi => ?_⟩, fun p hp => ?_⟩
  · simp only [List.length_cons, List.length_nil] at hi
    match i, hi with
    | 0, _ => simp [go_sem]
    | 1, _ => simp [go_sem]
    | 2, _ => simp [go_sem]
  · rcases List.mem_cons.1 hp with rfl | hp
    · exact h.alloc _
    · rcases List.mem_cons.1 hp with rfl | hp
      · exact h'.alloc _
      · obtain rfl := List.mem_singleton.1 hp
        exact h2.alloc _
end Go.Proofs.YtdoahlhkbhpgpaaDoor.wpartC
