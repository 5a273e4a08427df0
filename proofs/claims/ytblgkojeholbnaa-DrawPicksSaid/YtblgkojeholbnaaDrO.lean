/-
  A slice of floats as an argument.
-/
import Derived.Test.YtblgkojeholbnaaDrH
namespace Go.Proofs.Ytblgkojeholbnaa.ieC
open Go.ChangeShapes Go.WideShapes Go.ChangeAt Go.RowKit
open Go.Proofs.Ytblgkojeholbnaa.memC Go.Proofs.Ytblgkojeholbnaa.genC Go.Proofs.Ytblgkojeholbnaa.butC Go.Proofs.Ytblgkojeholbnaa.freeC
set_option linter.unusedVariables false
section
variable {H : Type} {enc : TypeId × Value → H} {w : World} {base : Nat} {spare : Nat → Bool} {held : Bool} {fuel : Nat} {cs : List Value} {x : DataW H × List MemPlace}
theorem f64_trod (h : DataW.trod enc Try.prog w base spare held fuel 22 cs = some x) : ∃ b : Nat, cs = [.float .f64 b] ∧ b < 18446744073709551616 := by
  cases fuel with
  | zero => simp [DataW.trod] at h
  | succ n =>
    unfold DataW.trod at h
    rw [Try.underlying22] at h
    have key : ∀ b : Nat, (Lit.float .f64 b).wf = true → b < 18446744073709551616 := fun b hw => by
      have : (decide (b < 2 ^ 64)) = true := hw
      simpa using this
    split at h <;> simp_all
theorem f64_cells : Try.prog.cellsOf 22 = 1 := by kernel_rfl
end
set_option maxRecDepth 100000 in
theorem open_floats {H : Type} {enc : TypeId × Value → H} {w : World} {base : Nat} {spare : Nat → Bool} {held : Bool} {r : Reach} {b0 : Nat} {v : Value} {d : DataW H} {ps : List MemPlace} (hsp : ∀ b, spare b = true)
    (hval : Value.okWide Try.prog w r b0 30 v) (hd : DataW.Trod enc Try.prog w base spare held 30 v d ps) : ∃ A n c ws, v = .slice A n c ∧ n ≤ c ∧ c ≤ 9223372036854775807 ∧ FlsE w w.heap.size A n ws := by
  obtain ⟨a, len, cap, rfl⟩ := okWide_slice Try.underlying30 hval
  obtain ⟨fuel, hf⟩ := hd
  rcases Go.Deep.open_slice Try.underlying30 hf with ⟨hcs, -⟩ | ⟨a2, l2, c2, m, n, D, Pl, hcs, hb, hl, hm, hmm, -, hx⟩
  · simp [Value.cells] at hcs
    obtain ⟨rfl, rfl, rfl⟩ := hcs
    exact ⟨none, 0, 0, [], rfl, Nat.le_refl _, Nat.zero_le _, ⟨rfl, fun h => absurd h (Nat.lt_irrefl 0), by simp⟩⟩
  · simp [Value.cells] at hcs
    obtain ⟨rfl, rfl, rfl⟩ := hcs
    rw [hsp, if_pos rfl] at hmm
    rw [f64_cells] at hx
    unfold maxLen at hm
    obtain ⟨f, hfx⟩ : ∃ f : Nat → Nat, ∀ i, i < len → f i < 18446744073709551616 ∧ w.cell? (a2.add (i * 1)) = some (.float .f64 (f i)) := by
      have : ∀ i, ∃ s : Nat, i < len → s < 18446744073709551616 ∧ w.cell? (a2.add (i * 1)) = some (.float .f64 s) := fun i => by
        by_cases hi : i < len
        · obtain ⟨cs', h1, h2⟩ := hx i (by omega)
          obtain ⟨-, h4, h5⟩ := World.cells?_some h1
          obtain ⟨s, rfl, h6⟩ := f64_trod h2
          refine ⟨s, fun _ => ⟨h6, ?_⟩⟩
          have h7 := h5 0 (by omega)
          simpa [Addr.add] using h7
        · exact ⟨0, fun h => absurd h hi⟩
      exact ⟨fun i => Classical.choose (this i), fun i => Classical.choose_spec (this i)⟩
    refine ⟨some a2, len, cap, (List.range len).map f, rfl, hl, by omega, ⟨by simp, fun h0 => ?_, fun s hs => ?_⟩⟩
    · obtain ⟨b, off, spot⟩ := a2
      have hc0 := (hfx 0 h0).2
      have hspot : spot = none := by simpa [Addr.add] using World.cell?_spot hc0
      subst hspot
      refine ⟨b, off, rfl, ?_, fun i s hi => ?_⟩
      · have := World.block_lt_of_cell? _ _ hc0
        rw [memC.add_plain] at this
        exact this
      · have hil : i < len := by have := (List.getElem?_eq_some_iff.1 hi).1; simpa using this
        rw [List.getElem?_map, List.getElem?_range hil] at hi
        injection hi with hi
        subst hi
        have := (hfx i hil).2
        rw [memC.add_plain, Nat.mul_one] at this
        exact this
    · obtain ⟨i, hi, rfl⟩ := List.mem_map.1 hs
      exact (hfx i (List.mem_range.1 hi)).1
end Go.Proofs.Ytblgkojeholbnaa.ieC
