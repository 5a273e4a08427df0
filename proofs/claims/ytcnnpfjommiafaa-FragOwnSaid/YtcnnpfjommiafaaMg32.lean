/-
  1 texts of a proof, joined.
-/
import Derived.Test.YtcnnpfjommiafaaMg13

/-
  What the laws ask of the program's functions; FragCuts.
-/
namespace Go.Proofs.Ytcnnpfjommiafaa.fgC
open Go.ChangeShapes Go.WideShapes Go.ChangeAt Go.RowKit
open Go.Proofs.Ytcnnpfjommiafaa.memC Go.Proofs.Ytcnnpfjommiafaa.genC Go.Proofs.Ytcnnpfjommiafaa.butC Go.Proofs.Ytcnnpfjommiafaa.freeC Go.Proofs.Ytcnnpfjommiafaa.adC
open Go.Proofs.Ytcnnpfjommiafaa.pkC (Pkt pktL pktV)
set_option linter.unusedVariables false
/-- all but the named blocks stand -/
structure Fs (S : Nat → Prop) (w w' : World) : Prop where
  os : w'.os = w.os
  tape : w'.tape = w.tape
  output : w'.output = w.output
  size : w.heap.size ≤ w'.heap.size
  block : ∀ k, k < w.heap.size → ¬ S k → w'.heap[k]? = w.heap[k]?
section
variable {S S' : Nat → Prop} {w w1 w2 : World}
theorem Fs.below (h : Below w.heap.size w w1) : Fs S w w1 := ⟨h.os, h.tape, h.output, h.size, fun k hk _ => h.block k hk⟩
theorem Fs.refl (w : World) : Fs S w w := Fs.below (Below.refl _ _)
theorem Fs.trans (h : Fs S w w1) (h' : Fs S w1 w2) : Fs S w w2 :=
  ⟨h'.os.trans h.os, h'.tape.trans h.tape, h'.output.trans h.output, Nat.le_trans h.size h'.size, fun k hk hn => (h'.block k (Nat.lt_of_lt_of_le hk h.size) hn).trans (h.block k hk hn)⟩
theorem Fs.to_below {B : Nat} (h : Fs S w w1) (hB : ∀ k, S k → B ≤ k) (hw : B ≤ w.heap.size) : Below B w w1 :=
  ⟨h.os, h.tape, h.output, h.size, fun k hk => h.block k (by omega) (fun hs => by have := hB k hs; omega)⟩
theorem Fs.mono (h : Fs S w w1) (hS : ∀ k, k < w.heap.size → S k → S' k) : Fs S' w w1 := ⟨h.os, h.tape, h.output, h.size, fun k hk hn => h.block k hk fun hs => hn (hS k hk hs)⟩
theorem Fs.row (h : Fs S w w1) {g : Nat} {o : Obj} (hr : w.heap[g]? = some o) (hn : ¬ S g) : w1.heap[g]? = some o := by rw [h.block g (Array.getElem?_eq_some_iff.1 hr).1 hn]; exact hr
end
/-- what Add gives: a packet with its load, a bool, a number; what the table is then -/
def AddR (Tb : World → (Nat → Prop) → Nat → TSt → Prop) (w : World) (S : Nat → Prop) (t : Nat) (r : Pc × Bool × Int) (st : TSt) (e : Ending) (w' : World) : Prop :=
  ∃ A n c S', e = .returned (.tuple #[.agg (pktV r.1.1 A n c), .bool r.2.1, .int .i64 r.2.2]) ∧ Nums .u8 w' w'.heap.size A n r.1.2 ∧ n ≤ c ∧ c ≤ 9223372036854775807 ∧ Tb w' S' t st ∧ (∀ k, S' k → S k ∨ w.heap.size ≤ k) ∧ Fs S w w'
/-- the program's functions; Tb w S t st: at t lies a table st, in the blocks S -/
structure FrF (Tb : World → (Nat → Prop) → Nat → TSt → Prop) : Prop where
  cut : ∀ (p : Pkt) (A : Option Addr) (n c : Nat) (xs : List Int) (mtu id : Int) (w : World), p.Ok → Nums .u8 w w.heap.size A n xs → (∀ x ∈ xs, Byte x) → n ≤ c → c ≤ 9223372036854775807 → (-9223372036854775808 ≤ mtu ∧ mtu ≤ 9223372036854775807) → (0 ≤ id ∧ id ≤ 4294967295) → n ≤ 2000 →
    Calls Try.prog 8 #[.agg (pktV p A n c), .int .i64 mtu, .int .u32 id] w (CutR w (cutL (p, xs) mtu id) (cutE (p, xs) mtu))
  keep : ∀ (w w' : World) (S : Nat → Prop) (t : Nat) (st : TSt), Tb w S t st → w.heap.size ≤ w'.heap.size → (∀ k, S k → w'.heap[k]? = w.heap[k]?) → Tb w' S t st
  lt : ∀ (w : World) (S : Nat → Prop) (t : Nat) (st : TSt), Tb w S t st → ∀ k, S k → k < w.heap.size
  new : ∀ (room : Int) (w : World), 1 ≤ room → room ≤ 64 → Calls Try.prog 11 #[.int .i64 room] w fun e w' => ∃ t S, e = .returned (.tuple #[.pointer (some ⟨t, 0, none⟩), .int .i64 0]) ∧ Tb w' S t ⟨room, 0, []⟩ ∧ (∀ k, S k → w.heap.size ≤ k) ∧ Below w.heap.size w w'
  no : ∀ (room : Int) (w : World), (-9223372036854775808 ≤ room ∧ room ≤ 9223372036854775807) → ¬ (1 ≤ room ∧ room ≤ 64) → Calls Try.prog 11 #[.int .i64 room] w (Ret w (.tuple #[.pointer none, .int .i64 1]))
  add : ∀ (w : World) (S : Nat → Prop) (t : Nat) (st : TSt) (now : Int) (p : Pkt) (A : Option Addr) (n c : Nat) (xs : List Int), Tb w S t st → (-9223372036854775808 ≤ now ∧ now ≤ 9223372036854775807) → p.Ok → Nums .u8 w w.heap.size A n xs → (0 < n → ∀ k, S k → ∀ i, A ≠ some ⟨k, i, none⟩) → (∀ x ∈ xs, Byte x) → n ≤ c → c ≤ 9223372036854775807 → n ≤ 70000 →
    Calls Try.prog 12 #[.pointer (some ⟨t, 0, none⟩), .int .i64 now, .agg (pktV p A n c)] w (AddR Tb w S t (addR st now (p, xs)) (addT st now (p, xs)))
  len : ∀ (w : World) (S : Nat → Prop) (t : Nat) (st : TSt), Tb w S t st → Calls Try.prog 18 #[.pointer (some ⟨t, 0, none⟩)] w (Ret w (.int .i64 (st.l.length : Nat)))
/-- the laws' sign that the program is there -/
def Alive : Prop := ∀ w : World, Calls Try.prog 7 #[] w (Ret w (.bool true))
set_option maxRecDepth 100000 in
set_option maxHeartbeats 4000000 in
theorem cuts_walk {Tb : World → (Nat → Prop) → Nat → TSt → Prop} (F : FrF Tb) (hal : Alive) (p : Pkt) (A : Option Addr) (n c : Nat) (xs : List Int) (mtu id : Int) (w : World) (hp : p.Ok) (hx : Nums .u8 w w.heap.size A n xs) (hy : ∀ x ∈ xs, Byte x) (hnc : n ≤ c) (hcm : c ≤ 9223372036854775807) (hm : -9223372036854775808 ≤ mtu ∧ mtu ≤ 9223372036854775807) (hid : 0 ≤ id ∧ id ≤ 4294967295) :
    Calls Try.prog 3 #[.agg (pktV p A n c), .int .i64 mtu, .int .u32 id] w (Ret w (.bool true)) := by
  obtain ⟨W, hW⟩ : ∃ W, W = w.alloc (.cells (pktV p A n c) 28) := ⟨_, rfl⟩
  have R := Lib.hid (show W.heap[w.heap.size]? = some (.cells (pktV p A n c) 28 (0, 0)) by rw [hW]; exact heap_alloc_new _ _)
  have HB := Lib.hid (show Below w.heap.size w W by rw [hW]; exact alloc_below _ _)
  have I := Lib.hid (pkt_info hp A n c)
  have p40 := pkC.PkC.cell R.out (pkC.pkC hp A n c).load
  have AL := Lib.hid hal
  have HNC := Lib.hid (show n ≤ 9223372036854775807 by omega)
  by_cases h3 : 2000 < n
  · have q3 : (n : Int) > 2000 := by omega
    have q3b : decide ((n : Int) > 2000) = true := decide_eq_true q3
    generalize pktV p A n c = C at *
    clear F hal hp hx hy hnc hcm hm hid h3
    go_enter Try.func3, Try.ntmps3
    go_upto_region 1 with fail
    rw [← hW]
    clear hW
    go_wp2_with (first
      | (go_at_call 7; (refine (AL.out _).mono ?_); rintro e w3 ⟨rfl, BB⟩
         have HB3 := Lib.hid (HB.out.trans (BB.mono HB.out.size))
         clear BB))
    go_ret
    exact ⟨rfl, HB3.out⟩
  have q3 : ¬ (n : Int) > 2000 := by omega
  have q3b : decide ((n : Int) > 2000) = false := decide_eq_false q3
  have CC := Lib.hid (fun w' (h : Below w.heap.size w w') => F.cut p A n c xs mtu id w' hp ((hx.below h).more h.size) hy hnc hcm hm hid (by omega))
  have DC := Lib.hid (fun w' (h : Below w.heap.size w w') => rcut_any p A n c xs mtu id w' hp ((hx.below h).more h.size) hy hnc hcm hm hid (by omega))
  have LN := Lib.hid (show (cutL (p, xs) mtu id).length ≤ 1000000 by
    have hl := hx.len
    have : ∀ f a (sz : Nat), (piecesP (p, xs) id sz f a).length ≤ f := fun f => by
      induction f with
      | zero => intro a sz; exact Nat.le_refl _
      | succ f ih => intro a sz; unfold piecesP; split; exact Nat.succ_le_succ (ih _ _); exact Nat.zero_le _
    unfold cutL
    split
    · exact Nat.zero_le _
    · split
      · exact (by decide : 1 ≤ 1000000)
      · split
        · exact Nat.zero_le _
        · exact Nat.le_trans (this _ _ _) (by show xs.length ≤ _; omega))
  generalize cutL (p, xs) mtu id = L at *
  generalize cutE (p, xs) mtu = er at *
  generalize pktV p A n c = C at *
  clear F hal hp hx hy hnc hcm hm hid h3
  go_enter Try.func3, Try.ntmps3
  go_upto_region 1 with fail
  rw [← hW]
  clear hW
  go_upto_region 4 with (first
    | (refine wpList_load_row rfl 28 (.tmp 3) rfl (w.heap.size) rfl _ _ _ _ R.out Try.underlying28 rfl I.out ?_)
    | (go_at_call 8; (refine (CC.out W HB.out).mono ?_); rintro e w2 ⟨A2, n2, c2, es, rfl, P2, E2, BB⟩
       have HB2 := Lib.hid (HB.out.trans (BB.mono HB.out.size))
       have R2 := Lib.hid ((BB.block _ (Array.getElem?_eq_some_iff.1 R.out).1).trans R.out)
       have HP2 := Lib.hid P2
       have HE2 := Lib.hid E2
       clear BB P2 E2))
  clear q3 q3b p40 CC R
  go_upto_region 5 with (first
    | (refine wpList_load_row rfl 28 (.tmp 3) rfl (w.heap.size) rfl _ _ _ _ R2.out Try.underlying28 rfl I.out ?_)
    | (go_at_call 9; (refine (DC.out w2 HB2.out).mono ?_); rintro e w3 ⟨A3, n3, c3, fs, rfl, P3, E3, BB⟩
       have HB3 := Lib.hid (HB2.out.trans (BB.mono HB2.out.size))
       have HP3 := Lib.hid P3
       have HP2q := Lib.hid (HP2.out.below BB BB.size)
       have HEE := Lib.hid (HE2.out.trans E3.symm)
       have HE3 := Lib.hid E3
       clear BB P3 E3))
  have hnn : n2 = n3 := by
    have h1 := HP2.out.len
    have h2 := HP3.out.len
    have h3 := congrArg List.length HEE.out
    rw [List.length_map, List.length_map] at h3
    omega
  subst hnn
  have SS := Lib.hid (same_self A2 A3 n2 c2 c3 es fs w3 HP2q.out HP3.out HEE.out (by
    have h1 := HP3.out.len
    have h2 := congrArg List.length HE3.out
    rw [List.length_map] at h2
    have := LN.out
    omega))
  clear DC R2 HP2 HE2 HP3 HP2q HEE HE3 LN
  go_wp2_with (first
    | go_skip
    | (go_at_call 10; (refine SS.out.mono ?_); rintro e w4 ⟨rfl, BB⟩
       have HB4 := Lib.hid (HB3.out.trans (BB.mono HB3.out.size))
       clear BB)
    | (go_at_call 7; (refine (AL.out _).mono ?_); rintro e w5 ⟨rfl, BB⟩
       have HB5 := Lib.hid (HB4.out.trans (BB.mono HB4.out.size))
       clear BB))
  go_ret
  exact ⟨rfl, HB5.out⟩
end Go.Proofs.Ytcnnpfjommiafaa.fgC
