/-
  2 texts of a proof, joined.
-/
import Derived.Test.YtmbfgolcinniiaaMg7
import Derived.Test.YtmbfgolcinniiaaMg5
import Derived.Test.YtmbfgolcinniiaaMg3
import Derived.Test.YtmbfgolcinniiaaMg6
import Derived.Laws.StructEq
import Derived.Lib.Hide

/-
  Addresses as values: their cells, '==' of two of them; results that are an address and a number.
-/
namespace Go.Proofs.Ytmbfgolcinniiaa.adC
open Go.ChangeShapes Go.WideShapes Go.ChangeAt Go.RowKit
open Go.Proofs.Ytmbfgolcinniiaa.memC Go.Proofs.Ytmbfgolcinniiaa.genC Go.Proofs.Ytmbfgolcinniiaa.butC Go.Proofs.Ytmbfgolcinniiaa.freeC
set_option linter.unusedVariables false
/-- a call's value, and that what was there stands -/
def Ret (w : World) (v : Value) (e : Ending) (w' : World) : Prop := e = .returned v ∧ Below w.heap.size w w'
theorem byte_inf : (Try.prog.info? 5).map (fun i => (i.zero, i.size, i.bytes)) = some (some (.int .u8 0), 1, 1) := by kernel_rfl
/-- what there was stands -/
def Gr (w0 w : World) : Prop := Below w0.heap.size w0 w
theorem lt_of_row {w : World} {g : Nat} {o : Obj} (h : w.heap[g]? = some o) : g < w.heap.size := by
  rcases Nat.lt_or_ge g w.heap.size with h' | h'
  · exact h'
  · rw [Array.getElem?_eq_none h'] at h; cases h
theorem Gr.below {w0 w w' : World} (h : Gr w0 w) (b : Below w.heap.size w w') : Gr w0 w' := Below.trans h (b.mono (Below.size h))
theorem Gr.row {w0 w : World} (h : Gr w0 w) {g : Nat} {o : Obj} (hg : w0.heap[g]? = some o) : w.heap[g]? = some o := by rw [Below.block h g (lt_of_row hg)]; exact hg
theorem Gr.mono {w0 w : World} {B : Nat} (h : Gr w0 w) (hB : B ≤ w0.heap.size) : Below B w0 w := Below.mono h hB
theorem results_cell_tmp {P : Program} {fn : Func} {p q : Tmp} {ty : TypeId} (h : fn.results = #[.cell p ty, .tmp q]) (tmps : Array Value) (w : World) (g : Nat) (t : TypeId) (cs : Array Value) (fr : Nat × Nat) (d : TypeDesc) (v : Value)
    (hp : tmps.getD p undef = .pointer (some ⟨g, 0, none⟩)) (hg : w.heap[g]? = some (.cells cs t fr)) (hu : P.underlying ty = some d) (hd : (match d with | .struct _ | .array _ _ => true | _ => false) = true) (hi : (P.info? ty).map (·.size) = some cs.size)
    (hp2 : tmps.getD q undef = v) :
    (results fn tmps).run P w = .ok (.tuple #[.agg cs, v]) w := by
  have hp' : tmps[p]?.getD undef = .pointer (some ⟨g, 0, none⟩) := by simpa using hp
  have hp2' : tmps[q]?.getD undef = v := by simpa using hp2
  simp [results, h, hp', hp2', asAddr, run_loadVar_row w g t ty cs fr d hg hu hd hi]
def adrV (s : Bool) (bs : List Int) : Array Value := (Value.bool s :: bs.map (Value.int .u8)).toArray
theorem adrV_at {s : Bool} {bs : List Int} {i : Nat} (hi : i < bs.length) : (adrV s bs)[1 + i]? = some (.int .u8 (bs.getD i 0)) := by
  unfold adrV
  rw [List.getElem?_toArray, Nat.add_comm, List.getElem?_cons_succ]
  simp [List.getD_eq_getElem?_getD, hi]
def zs (n : Nat) : List Int := List.replicate n 0
def zAdr : Array Value := adrV false (zs 16)
theorem wpList_zero {P : Program} {ops : Array Oper} {rest : List Oper} {o : Oper} {a : Act} {w : World} {Q : Exit → Act → World → Prop} (hg : o.guard = none) (t : TypeId) (ho : o.op = .build t #[])
    (cells : Array Value) (hf : P.built t [] = some cells)
    (h : wpList P ops Q rest (a.put o.dst (.agg cells)) w) : wpList P ops Q (o :: rest) a w := by
  refine wpList_plain hg fun _ hK => ?_
  unfold Oper.wp execOp
  have hb : (Instr.build t #[]).run P w = .ok (.agg cells) w := run_build w t _ cells hf
  simp [ho, hb, Result.andThen_ok]
  exact hK _ _ h
end Go.Proofs.Ytmbfgolcinniiaa.adC

/-
  How an argument that is an address is opened.
-/
namespace Go.Proofs.Ytmbfgolcinniiaa.adC
open Go.ChangeShapes Go.WideShapes Go.ChangeAt Go.RowKit
open Go.Proofs.Ytmbfgolcinniiaa.memC Go.Proofs.Ytmbfgolcinniiaa.genC Go.Proofs.Ytmbfgolcinniiaa.butC Go.Proofs.Ytmbfgolcinniiaa.freeC
set_option linter.unusedVariables false
section
variable {P : Program} {w : World} {r : Reach} {b0 : Nat} {t : TypeId}
theorem cell_u8 {ti : TypeId} {v : Value} (hi : P.underlying ti = some (.int .u8)) (h : Cell.okWide P w r b0 ti v) : ∃ z, v = .int .u8 z ∧ Byte z := by
  unfold Cell.okWide at h
  rw [hi] at h
  unfold Cell.ok at h
  rw [hi] at h
  cases v <;> simp at h
  obtain ⟨rfl, h1, h2⟩ := h
  exact ⟨_, rfl, by simpa [IntKind.min, IntKind.max, IntKind.signed, IntKind.bits] using h1, by simpa [IntKind.min, IntKind.max, IntKind.signed, IntKind.bits] using h2⟩
theorem cell_bool {tb : TypeId} {v : Value} (hb : P.underlying tb = some .bool) (h : Cell.okWide P w r b0 tb v) : ∃ s, v = .bool s := by
  unfold Cell.okWide at h
  rw [hb] at h
  unfold Cell.ok at h
  rw [hb] at h
  cases v <;> simp at h
  exact ⟨_, rfl⟩
theorem open_addr {fs : Array Field} {tb ti : TypeId} {v : Value} (ht : P.underlying t = some (.struct fs)) (hc : P.cellsOf t = 17) (hts : P.cellTypes P.depth t = some (tb :: List.replicate 16 ti))
    (hb : P.underlying tb = some .bool) (hi : P.underlying ti = some (.int .u8)) (hval : Value.okWide P w r b0 t v) :
    ∃ (s : Bool) (bs : List Int), v = .agg (adrV s bs) ∧ bs.length = 16 ∧ ∀ x ∈ bs, Byte x := by
  obtain ⟨cs, rfl, hsz, ts, hts', _, hcell⟩ : ∃ cs, v = .agg cs ∧ cs.size = P.cellsOf t ∧ Row.okWide P w r b0 t cs := by
    simpa [Value.okWide, ht] using hval
  obtain ⟨l⟩ := cs
  rw [hc] at hsz
  have hl : l.length = 17 := by simpa using hsz
  rw [hts] at hts'
  obtain rfl := Option.some.inj hts'
  have key : ∀ i, i < 17 → ∃ v u, l[i]? = some v ∧ (tb :: List.replicate 16 ti)[i]? = some u ∧ Cell.okWide P w r b0 u v := fun i hi36 => by
    have e : l[i]? = some (l[i]'(by omega)) := List.getElem?_eq_getElem _
    obtain ⟨u, h1, h2⟩ := hcell i (l[i]'(by omega)) (by rw [← e]; simp)
    refine ⟨_, u, e, ?_, h2⟩
    have : i % 17 = i := Nat.mod_eq_of_lt hi36
    simpa [this] using h1
  obtain ⟨s, hs⟩ : ∃ s, l[0]? = some (.bool s) := by
    obtain ⟨v, u, h1, h2, h3⟩ := key 0 (by decide)
    obtain rfl : tb = u := by simpa using h2
    obtain ⟨s, rfl⟩ := cell_bool hb h3
    exact ⟨s, h1⟩
  have kb : ∀ i, i < 16 → ∃ z, l[1 + i]? = some (.int .u8 z) ∧ Byte z := fun i hi' => by
    obtain ⟨v, u, h1, h2, h3⟩ := key (1 + i) (by omega)
    have : u = ti := by
      rw [Nat.add_comm, List.getElem?_cons_succ, List.getElem?_replicate, if_pos hi'] at h2
      exact (Option.some.inj h2).symm
    subst this
    obtain ⟨z, rfl, hz⟩ := cell_u8 hi h3
    exact ⟨z, h1, hz⟩
  match l, hl, hs, kb with
  | v0 :: rest, hl, hs, kb =>
    have e0 : v0 = .bool s := by simpa using hs
    subst e0
    have hr : rest.length = 16 := by simpa using hl
    refine ⟨s, rest.map fun v => match v with | .int _ z => z | _ => 0, ?_, by rw [List.length_map, hr], fun x hx => ?_⟩
    · unfold adrV
      congr 2
      rw [List.map_map]
      apply congrArg (Value.bool s :: ·)
      apply List.ext_getElem?
      intro i
      by_cases hi : i < 16
      · obtain ⟨z, hz, _⟩ := kb i hi
        rw [Nat.add_comm, List.getElem?_cons_succ] at hz
        rw [List.getElem?_map, hz]; rfl
      · rw [List.getElem?_eq_none (by omega), List.getElem?_eq_none (by rw [List.length_map]; omega)]
    · obtain ⟨v, hv, rfl⟩ := List.mem_map.1 hx
      obtain ⟨i, hi, rfl⟩ := List.getElem_of_mem hv
      obtain ⟨z, hz, hw⟩ := kb i (by omega)
      rw [Nat.add_comm, List.getElem?_cons_succ, List.getElem?_eq_getElem hi] at hz
      rw [Option.some.inj hz]; exact hw
end
end Go.Proofs.Ytmbfgolcinniiaa.adC
