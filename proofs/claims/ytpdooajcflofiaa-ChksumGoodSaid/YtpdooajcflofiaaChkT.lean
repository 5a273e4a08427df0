/-
  How two addresses that came in are opened; the third statement's walk, whole.
-/
import Derived.Test.YtpdooajcflofiaaChkS
namespace Go.Proofs.Ytpdooajcflofiaa.chkC
open Go.ChangeShapes Go.WideShapes Go.ChangeAt Go.RowKit
open Go.Proofs.Ytpdooajcflofiaa.memC Go.Proofs.Ytpdooajcflofiaa.chkM
set_option linter.unusedVariables false
section
variable {P : Program} {w : World} {r : Reach} {b0 : Nat} {t : TypeId}
theorem cell_u8 {ti : TypeId} {v : Value} (hi : P.underlying ti = some (.int .u8)) (h : Cell.okWide P w r b0 ti v) : ∃ z, v = .int .u8 z ∧ Byte z := by
  unfold Cell.okWide at h
  rw [hi] at h
  unfold Cell.ok at h
  rw [hi] at h
  cases v <;> simp at h
  obtain ⟨rfl, h1, h2⟩ := h
  exact ⟨_, rfl, by simpa [IntKind.min, IntKind.max, IntKind.signed, IntKind.bits] using h1, by simpa [IntKind.min, IntKind.max, IntKind.signed, IntKind.bits] using h2⟩
theorem cell_bool {tb : TypeId} {v : Value} (hb : P.underlying tb = some .bool) (h : Cell.okWide P w r b0 tb v) : ∃ s, v = .bool s := by
  unfold Cell.okWide at h
  rw [hb] at h
  unfold Cell.ok at h
  rw [hb] at h
  cases v <;> simp at h
  exact ⟨_, rfl⟩
/-- the number in a cell -/
def numOf : Option Value → Int
  | some (Value.int _ z) => z
  | _ => 0
/-- seventeen cells of which the first is a Bool, the others bytes -/
theorem addr_of {l : List Value} (hl : l.length = 17) (h0 : ∃ s, l[0]? = some (.bool s)) (h1 : ∀ i, i < 16 → ∃ z, l[1 + i]? = some (.int .u8 z) ∧ Byte z) : ∃ s bs, AddrC l.toArray s bs := by
  obtain ⟨s, hs⟩ := h0
  refine ⟨s, (List.range 16).map fun i => numOf l[1 + i]?, ⟨by simpa using hl, by simpa using hs, by simp, fun i hi => ?_, fun x hx => ?_⟩⟩
  · obtain ⟨z, hz, _⟩ := h1 i hi
    rw [List.getD_eq_getElem?_getD]
    simp [hi, hz, numOf]
  · obtain ⟨i, hi, rfl⟩ := List.mem_map.1 hx
    obtain ⟨z, hz, hb⟩ := h1 i (List.mem_range.1 hi)
    rw [hz]; exact hb
theorem open_two {e tb ti : TypeId} {v : Value} (ht : P.underlying t = some (.array 2 e)) (hc : P.cellsOf t = 34) (hts : P.cellTypes P.depth t = some ((tb :: List.replicate 16 ti) ++ (tb :: List.replicate 16 ti)))
    (hb : P.underlying tb = some .bool) (hi : P.underlying ti = some (.int .u8)) (hval : Value.okWide P w r b0 t v) :
    ∃ (l1 l2 : List Value) (s1 s2 : Bool) (b1 b2 : List Int), v = .agg (l1 ++ l2).toArray ∧ l1.length = 17 ∧ l2.length = 17 ∧ AddrC l1.toArray s1 b1 ∧ AddrC l2.toArray s2 b2 := by
  obtain ⟨cs, rfl, hsz, ts, hts', _, hcell⟩ : ∃ cs, v = .agg cs ∧ cs.size = P.cellsOf t ∧ Row.okWide P w r b0 t cs := by
    simpa [Value.okWide, ht] using hval
  obtain ⟨l⟩ := cs
  rw [hc] at hsz
  have hl : l.length = 34 := by simpa using hsz
  rw [hts] at hts'
  obtain rfl := Option.some.inj hts'
  have key : ∀ i, i < 34 → ∃ v u, l[i]? = some v ∧ ((tb :: List.replicate 16 ti) ++ (tb :: List.replicate 16 ti))[i]? = some u ∧ Cell.okWide P w r b0 u v := fun i hi34 => by
    have e : l[i]? = some (l[i]'(by omega)) := List.getElem?_eq_getElem _
    obtain ⟨u, h1, h2⟩ := hcell i (l[i]'(by omega)) (by rw [← e]; simp)
    refine ⟨_, u, e, ?_, h2⟩
    have : i % 34 = i := Nat.mod_eq_of_lt hi34
    simpa [this] using h1
  have kb : ∀ i, i = 0 ∨ i = 17 → ∃ s, l[i]? = some (.bool s) := fun i hi' => by
    obtain ⟨v, u, h1, h2, h3⟩ := key i (by omega)
    have : u = tb := by rcases hi' with rfl | rfl <;> simpa using h2.symm
    subst this
    obtain ⟨s, rfl⟩ := cell_bool hb h3
    exact ⟨s, h1⟩
  have ki : ∀ i, i < 16 → (∃ z, l[1 + i]? = some (.int .u8 z) ∧ Byte z) ∧ ∃ z, l[18 + i]? = some (.int .u8 z) ∧ Byte z := fun i hi' => by
    constructor
    · obtain ⟨v, u, h1, h2, h3⟩ := key (1 + i) (by omega)
      have : u = ti := by
        rw [List.getElem?_append_left (by simp; omega), Nat.add_comm, List.getElem?_cons_succ, List.getElem?_replicate, if_pos hi'] at h2
        exact (Option.some.inj h2).symm
      subst this
      obtain ⟨z, rfl, hz⟩ := cell_u8 hi h3
      exact ⟨z, h1, hz⟩
    · obtain ⟨v, u, h1, h2, h3⟩ := key (18 + i) (by omega)
      have : u = ti := by
        rw [List.getElem?_append_right (by simp; omega)] at h2
        have e : 18 + i - (tb :: List.replicate 16 ti).length = i + 1 := by simp; omega
        rw [e, List.getElem?_cons_succ, List.getElem?_replicate, if_pos hi'] at h2
        exact (Option.some.inj h2).symm
      subst this
      obtain ⟨z, rfl, hz⟩ := cell_u8 hi h3
      exact ⟨z, h1, hz⟩
  obtain ⟨s1, b1, A1⟩ := addr_of (l := l.take 17) (by simp; omega) (by obtain ⟨s, hs⟩ := kb 0 (.inl rfl); exact ⟨s, by simpa using hs⟩)
    (fun i hi' => by obtain ⟨z, hz, hy⟩ := (ki i hi').1; exact ⟨z, by rw [List.getElem?_take, if_pos (by omega)]; exact hz, hy⟩)
  obtain ⟨s2, b2, A2⟩ := addr_of (l := l.drop 17) (by simp; omega) (by obtain ⟨s, hs⟩ := kb 17 (.inr rfl); exact ⟨s, by simpa using hs⟩)
    (fun i hi' => by obtain ⟨z, hz, hy⟩ := (ki i hi').2; exact ⟨z, by rw [List.getElem?_drop, show 17 + (1 + i) = 18 + i by omega]; exact hz, hy⟩)
  exact ⟨l.take 17, l.drop 17, s1, s2, b1, b2, by rw [List.take_append_drop], by simp; omega, by simp; omega, A1, A2⟩
end
theorem good_walk (l1 l2 : List Value) (s1 s2 : Bool) (b1 b2 : List Int) (hl1 : l1.length = 17) (hl2 : l2.length = 17) (hA1 : AddrC l1.toArray s1 b1) (hA2 : AddrC l2.toArray s2 b2)
    (A : Option Addr) (n c : Nat) (xs : List Int) (a0 a1 : Int) (w : World) (hn : n ≤ 9223372036854775807) (hA : Nums .u8 w w.heap.size A n xs) (ya : ∀ x ∈ xs, Byte x)
    (a00 : -9223372036854775808 ≤ a0) (a01 : a0 ≤ 9223372036854775807) (a10 : -9223372036854775808 ≤ a1) (a11 : a1 ≤ 9223372036854775807) :
    Calls Try.prog 5 #[.agg (l1 ++ l2).toArray, .slice A n c, .agg #[.int .i64 a0, .int .i64 a1]] w (AliveRet w) := by
  by_cases h : 3000 < n ∨ n < 2
  · exact good_long _ _ A n c w hn h
  · exact good_short l1 l2 s1 s2 b1 b2 hl1 hl2 hA1 hA2 A n c xs a0 a1 w (by omega) (by omega) hA ya a00 a01 a10 a11
end Go.Proofs.Ytpdooajcflofiaa.chkC
