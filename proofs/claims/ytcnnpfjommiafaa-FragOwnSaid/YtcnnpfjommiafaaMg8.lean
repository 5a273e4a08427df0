/-
  8 texts of a proof, joined.
-/
import Derived.Test.YtcnnpfjommiafaaMg3
import Derived.Test.YtcnnpfjommiafaaMg7
import Derived.Test.YtcnnpfjommiafaaRows
import Derived.WalkKit
import Derived.ProofKit
import Derived.OpenShut
import Derived.ShutString
import Derived.ChangeOld
import Derived.Below
import Derived.RegionTactic
import Derived.Test.YtcnnpfjommiafaaMg1
import Derived.Outline
import Derived.Deep.QuietTactic
import Derived.BigQuiet
import Derived.Lib.Hide
import Derived.IntWalk

/-
  Packets as values: their cells, and how one that came in is opened.
-/
namespace Go.Proofs.Ytcnnpfjommiafaa.pkC
open Go.ChangeShapes Go.WideShapes Go.ChangeAt Go.RowKit
open Go.Proofs.Ytcnnpfjommiafaa.memC Go.Proofs.Ytcnnpfjommiafaa.genC Go.Proofs.Ytcnnpfjommiafaa.butC Go.Proofs.Ytcnnpfjommiafaa.freeC Go.Proofs.Ytcnnpfjommiafaa.adC
set_option linter.unusedVariables false
/-- a packet, but for its load -/
structure Pkt where
  s : Bool
  a : List Int
  t : Bool
  b : List Int
  proto : Int
  hops : Int
  id : Int
  whole : Bool
  more : Bool
  off : Int
structure Pkt.Ok (p : Pkt) : Prop where
  la : p.a.length = 16
  lb : p.b.length = 16
  ya : ∀ x ∈ p.a, Byte x
  yb : ∀ x ∈ p.b, Byte x
  proto : Byte p.proto
  hops : Byte p.hops
  id : 0 ≤ p.id ∧ p.id ≤ 4294967295
  off : -9223372036854775808 ≤ p.off ∧ p.off ≤ 9223372036854775807
def adrC (s : Bool) (b : List Int) : List Value := .bool s :: b.map (Value.int .u8)
theorem adrC_arr (s : Bool) (b : List Int) : (adrC s b).toArray = adrV s b := rfl
theorem adrC_len {s : Bool} {b : List Int} (h : b.length = 16) : (adrC s b).length = 17 := by simp [adrC, h]
def pktT (p : Pkt) (A : Option Addr) (n c : Nat) : List Value := [.int .u8 p.proto, .int .u8 p.hops, .int .u32 p.id, .bool p.whole, .bool p.more, .int .i64 p.off, .slice A n c]
def pktL (p : Pkt) (A : Option Addr) (n c : Nat) : List Value := adrC p.s p.a ++ (adrC p.t p.b ++ pktT p A n c)
def pktV (p : Pkt) (A : Option Addr) (n c : Nat) : Array Value := (pktL p A n c).toArray
/-- what is known of a packet's cells -/
structure PkC (C : Array Value) (p : Pkt) (A : Option Addr) (n c : Nat) : Prop where
  size : C.size = 41
  src : ∀ j v, (adrC p.s p.a)[j]? = some v → C[0 + j]? = some v
  dst : ∀ j v, (adrC p.t p.b)[j]? = some v → C[17 + j]? = some v
  proto : C[34]? = some (.int .u8 p.proto)
  hops : C[35]? = some (.int .u8 p.hops)
  id : C[36]? = some (.int .u32 p.id)
  whole : C[37]? = some (.bool p.whole)
  more : C[38]? = some (.bool p.more)
  off : C[39]? = some (.int .i64 p.off)
  load : C[40]? = some (.slice A n c)
theorem pktL_src {p : Pkt} (h : p.a.length = 16) (A : Option Addr) (n c : Nat) (j : Nat) (v : Value) (hv : (adrC p.s p.a)[j]? = some v) : (pktL p A n c)[j]? = some v := by
  have hj : j < (adrC p.s p.a).length := (List.getElem?_eq_some_iff.1 hv).1
  unfold pktL
  rw [List.getElem?_append_left hj]; exact hv
theorem pktL_dst {p : Pkt} (h : p.a.length = 16) (A : Option Addr) (n c : Nat) (j : Nat) (v : Value) (hv : (adrC p.t p.b)[j]? = some v) : (pktL p A n c)[17 + j]? = some v := by
  have hj : j < (adrC p.t p.b).length := (List.getElem?_eq_some_iff.1 hv).1
  have hl := adrC_len (s := p.s) h
  unfold pktL
  rw [List.getElem?_append_right (by omega), hl, Nat.add_sub_cancel_left, List.getElem?_append_left hj]; exact hv
theorem pktL_tail {p : Pkt} (h : p.a.length = 16) (h' : p.b.length = 16) (A : Option Addr) (n c : Nat) (k : Nat) : (pktL p A n c)[34 + k]? = (pktT p A n c)[k]? := by
  have hl := adrC_len (s := p.s) h
  have hl' := adrC_len (s := p.t) h'
  unfold pktL
  rw [List.getElem?_append_right (by omega), List.getElem?_append_right (by omega), hl, hl']
  congr 1; omega
theorem pktL_len {p : Pkt} (h : p.a.length = 16) (h' : p.b.length = 16) (A : Option Addr) (n c : Nat) : (pktL p A n c).length = 41 := by
  unfold pktL
  rw [List.length_append, List.length_append, adrC_len h, adrC_len h']
  rfl
theorem pkC {p : Pkt} (h : p.Ok) (A : Option Addr) (n c : Nat) : PkC (pktV p A n c) p A n c := by
  have t := pktL_tail h.la h.lb A n c
  unfold pktV
  exact { size := by simpa using pktL_len h.la h.lb A n c
          src := fun j v hv => by simpa using pktL_src h.la A n c j v hv
          dst := fun j v hv => by simpa using pktL_dst h.la A n c j v hv
          proto := by simpa [pktT] using t 0
          hops := by simpa [pktT] using t 1
          id := by simpa [pktT] using t 2
          whole := by simpa [pktT] using t 3
          more := by simpa [pktT] using t 4
          off := by simpa [pktT] using t 5
          load := by simpa [pktT] using t 6 }
theorem pkt_info0 : (Try.prog.info? 28).map (·.size) = some 41 := by kernel_rfl
theorem PkC.info {C : Array Value} {p : Pkt} {A : Option Addr} {n c : Nat} (h : PkC C p A n c) : (Try.prog.info? 28).map (·.size) = some C.size := by rw [pkt_info0, h.size]
theorem adrC_info {s : Bool} {b : List Int} (h : b.length = 16) : (Try.prog.info? 24).map (·.size) = some (adrC s b).length := by rw [adrC_len h]; exact addr_info
theorem wpList_load_partG {P : Program} {ops : Array Oper} {rest : List Oper} {o : Oper} {a : Act} {w : World} {Q : Exit → Act → World → Prop} (hw : Region.wanted o (yielded ops a.tmps) = true) (ty : TypeId) (x : Operand) (ho : o.op = .load ty x)
    (g q : Nat) (hx : a.eval x = .pointer (some ⟨g, q, none⟩)) (l : List Value) (d : TypeDesc) (hc : ∀ j v, l[j]? = some v → w.cell? ⟨g, q + j, none⟩ = some v)
    (hu : P.underlying ty = some d) (hd : (match d with | .struct _ | .array _ _ => true | _ => false) = true) (hi : (P.info? ty).map (·.size) = some l.length)
    (h : wpList P ops Q rest (a.put o.dst (.agg l.toArray)) w) : wpList P ops Q (o :: rest) a w := by
  refine wpList_step fun K hK => ?_
  rw [if_pos hw]
  unfold Oper.wp execOp
  simp only [ho, hx, Instr.loadAt, Instr.sureAddr, Sem.run_bind, Sem.run_pure, Result.andThen_ok, partC.run_load_part w g q ty l d hc hu hd hi]
  exact hK _ _ h
/-- a block's cells, read -/
theorem PkC.cell {C : Array Value} {w : World} {g : Nat} {T : TypeId} (R : w.heap[g]? = some (.cells C T (0, 0))) {k : Nat} {v : Value} (h : C[k]? = some v) : w.cell? ⟨g, k, none⟩ = some v := by
  rw [cell_of_row w g k C T (0, 0) R]; exact h
theorem PkC.part {C : Array Value} {w : World} {g : Nat} {T : TypeId} (R : w.heap[g]? = some (.cells C T (0, 0))) {l : List Value} {q : Nat} (h : ∀ j v, l[j]? = some v → C[q + j]? = some v) : ∀ j v, l[j]? = some v → w.cell? ⟨g, q + j, none⟩ = some v :=
  fun j v hv => PkC.cell R (h j v hv)
/-- whether two packets, and their loads, are the same -/
def sameB (p : Pkt) (xs : List Int) (q : Pkt) (ys : List Int) : Bool :=
  decide (p.s = q.s ∧ p.a = q.a) && (decide (p.t = q.t ∧ p.b = q.b) && (decide (p.proto = q.proto) && (decide (p.hops = q.hops) && (decide (p.id = q.id) && (decide (p.whole = q.whole) && (decide (p.more = q.more) && (decide (p.off = q.off) && decide (xs = ys))))))))
/-- whether a packet may be, by the length of its load -/
def mayB (p : Pkt) (n : Nat) : Bool :=
  !p.s && !p.t && mayL p.s p.a && mayL p.t p.b && decide (p.id ≤ 65535) && decide (0 ≤ p.off) && decide (p.off % 8 = 0) && decide ((n : Int) ≤ 65515) && decide (p.off ≤ 65515 - (n : Int)) && (!p.more || decide (n % 8 = 0)) && (!p.whole || (!p.more && decide (p.off = 0)))
section
variable {P : Program} {w : World} {r : Reach} {b0 : Nat} {t : TypeId}
theorem cell_int {k : IntKind} {ti : TypeId} {v : Value} (hi : P.underlying ti = some (.int k)) (h : Cell.okWide P w r b0 ti v) : ∃ z, v = .int k z ∧ k.min ≤ z ∧ z ≤ k.max := by
  unfold Cell.okWide at h
  rw [hi] at h
  unfold Cell.ok at h
  rw [hi] at h
  cases v <;> simp at h
  obtain ⟨rfl, h1, h2⟩ := h
  exact ⟨_, rfl, h1, h2⟩
/-- 17 cells that hold an address -/
theorem adr_cells {l : List Value} {q : Nat} (hs : ∃ s, l[q]? = some (.bool s)) (kb : ∀ i, i < 16 → ∃ z, l[q + 1 + i]? = some (.int .u8 z) ∧ Byte z) :
    ∃ s bs, bs.length = 16 ∧ (∀ x ∈ bs, Byte x) ∧ (l.drop q).take 17 = adrC s bs := by
  obtain ⟨s, hs⟩ := hs
  refine ⟨s, (List.range 16).map fun i => match l[q + 1 + i]? with | some (.int _ z) => z | _ => 0, by simp, fun x hx => ?_, ?_⟩
  · obtain ⟨i, hi, rfl⟩ := List.mem_map.1 hx
    obtain ⟨z, hz, hw⟩ := kb i (List.mem_range.1 hi)
    rw [hz]; exact hw
  · apply List.ext_getElem?
    intro j
    by_cases hj : j < 17
    · rw [List.getElem?_take_of_lt hj, List.getElem?_drop]
      unfold adrC
      cases j with
      | zero => simpa using hs
      | succ j =>
        obtain ⟨z, hz, _⟩ := kb j (by omega)
        rw [List.getElem?_cons_succ, List.getElem?_map, List.getElem?_map, List.getElem?_range (by omega)]
        have e : q + (j + 1) = q + 1 + j := by omega
        rw [e, hz]
        simp [hz]
    · rw [List.getElem?_eq_none (by rw [List.length_take]; omega), List.getElem?_eq_none (by simp [adrC]; omega)]
end
/-- a packet that came in -/
theorem open_packet {H : Type} {enc : TypeId × Value → H} {P : Program} {w : World} {base : Nat} {spare : Nat → Bool} {held : Bool} {r : Reach} {b0 : Nat} {t tb ti t32 tn ts : TypeId} {fs : Array Field} {f8 : Field} {v : Value} {d : DataW H} {ps : List MemPlace}
    (ht : P.underlying t = some (.struct fs)) (hc : P.cellsOf t = 41) (h8 : fs[8]? = some f8) (e8 : f8.type = ts) (o8 : f8.offset = 40) (c8 : P.cellsOf ts = 1)
    (hts : P.cellTypes P.depth t = some ((tb :: List.replicate 16 ti) ++ ((tb :: List.replicate 16 ti) ++ [ti, ti, t32, tb, tb, tn, ts])))
    (hb : P.underlying tb = some .bool) (hi : P.underlying ti = some (.int .u8)) (h32 : P.underlying t32 = some (.int .u32)) (hn : P.underlying tn = some (.int .i64)) (hs : P.underlying ts = some (.slice ti)) (ci : P.cellsOf ti = 1)
    (hsp : ∀ b, spare b = true) (hval : Value.okWide P w r b0 t v) (hd : DataW.Trod enc P w base spare held t v d ps) :
    ∃ (p : Pkt) (A : Option Addr) (n c : Nat) (zs : List Int), v = .agg (pktV p A n c) ∧ p.Ok ∧ n ≤ c ∧ c ≤ 9223372036854775807 ∧ Nums .u8 w w.heap.size A n zs ∧ ∀ x ∈ zs, Byte x := by
  obtain ⟨fuel, hf⟩ := hd
  obtain ⟨cs, rfl, hsz, ts', hts', _, hcell⟩ : ∃ cs, v = .agg cs ∧ cs.size = P.cellsOf t ∧ Row.okWide P w r b0 t cs := by
    simpa [Value.okWide, ht] using hval
  obtain ⟨l⟩ := cs
  rw [hc] at hsz
  have hl : l.length = 41 := by simpa using hsz
  rw [hts] at hts'
  obtain rfl := Option.some.inj hts'
  have key : ∀ i, i < 41 → ∃ v u, l[i]? = some v ∧ ((tb :: List.replicate 16 ti) ++ ((tb :: List.replicate 16 ti) ++ [ti, ti, t32, tb, tb, tn, ts]))[i]? = some u ∧ Cell.okWide P w r b0 u v := fun i hi36 => by
    have e : l[i]? = some (l[i]'(by omega)) := List.getElem?_eq_getElem _
    obtain ⟨u, h1, h2⟩ := hcell i (l[i]'(by omega)) (by rw [← e]; simp)
    refine ⟨_, u, e, ?_, h2⟩
    have : i % 41 = i := Nat.mod_eq_of_lt hi36
    simpa [this] using h1
  have kb : ∀ q, (q = 0 ∨ q = 17) → (∃ s, l[q]? = some (.bool s)) ∧ ∀ i, i < 16 → ∃ z, l[q + 1 + i]? = some (.int .u8 z) ∧ Byte z := fun q hq => by
    constructor
    · obtain ⟨v, u, h1, h2, h3⟩ := key q (by omega)
      have : u = tb := by
        rcases hq with rfl | rfl
        · exact (Option.some.inj h2).symm
        · exact (Option.some.inj h2).symm
      subst this
      obtain ⟨s, rfl⟩ := cell_bool hb h3
      exact ⟨s, h1⟩
    · intro i hi'
      obtain ⟨v, u, h1, h2, h3⟩ := key (q + 1 + i) (by omega)
      have : u = ti := by
        rcases hq with rfl | rfl
        · rw [List.getElem?_append_left (by simp; omega), show 0 + 1 + i = i + 1 by omega, List.getElem?_cons_succ, List.getElem?_replicate, if_pos hi'] at h2
          exact (Option.some.inj h2).symm
        · rw [List.getElem?_append_right (by simp; omega), List.getElem?_append_left (by simp; omega)] at h2
          have e : 17 + 1 + i - (tb :: List.replicate 16 ti).length = i + 1 := by simp; omega
          rw [e, List.getElem?_cons_succ, List.getElem?_replicate, if_pos hi'] at h2
          exact (Option.some.inj h2).symm
      subst this
      obtain ⟨z, rfl, hz⟩ := cell_u8 hi h3
      exact ⟨z, h1, hz⟩
  obtain ⟨s, a, la, ya, ea⟩ := adr_cells (kb 0 (.inl rfl)).1 (kb 0 (.inl rfl)).2
  obtain ⟨s', b, lb, yb, eb⟩ := adr_cells (kb 17 (.inr rfl)).1 (kb 17 (.inr rfl)).2
  obtain ⟨x34, h34, y34⟩ : ∃ z, l[34]? = some (.int .u8 z) ∧ Byte z := by
    obtain ⟨v, u, h1, h2, h3⟩ := key 34 (by omega)
    have : u = ti := (Option.some.inj h2).symm
    subst this
    obtain ⟨z, rfl, hz⟩ := cell_u8 hi h3
    exact ⟨z, h1, hz⟩
  obtain ⟨x35, h35, y35⟩ : ∃ z, l[35]? = some (.int .u8 z) ∧ Byte z := by
    obtain ⟨v, u, h1, h2, h3⟩ := key 35 (by omega)
    have : u = ti := (Option.some.inj h2).symm
    subst this
    obtain ⟨z, rfl, hz⟩ := cell_u8 hi h3
    exact ⟨z, h1, hz⟩
  obtain ⟨x36, h36, y36⟩ : ∃ z, l[36]? = some (.int .u32 z) ∧ IntKind.u32.min ≤ z ∧ z ≤ IntKind.u32.max := by
    obtain ⟨v, u, h1, h2, h3⟩ := key 36 (by omega)
    have : u = t32 := (Option.some.inj h2).symm
    subst this
    obtain ⟨z, rfl, hz⟩ := cell_int h32 h3
    exact ⟨z, h1, hz⟩
  obtain ⟨x37, h37⟩ : ∃ z, l[37]? = some (.bool z) := by
    obtain ⟨v, u, h1, h2, h3⟩ := key 37 (by omega)
    have : u = tb := (Option.some.inj h2).symm
    subst this
    obtain ⟨z, rfl⟩ := cell_bool hb h3
    exact ⟨z, h1⟩
  obtain ⟨x38, h38⟩ : ∃ z, l[38]? = some (.bool z) := by
    obtain ⟨v, u, h1, h2, h3⟩ := key 38 (by omega)
    have : u = tb := (Option.some.inj h2).symm
    subst this
    obtain ⟨z, rfl⟩ := cell_bool hb h3
    exact ⟨z, h1⟩
  obtain ⟨x39, h39, y39⟩ : ∃ z, l[39]? = some (.int .i64 z) ∧ IntKind.i64.min ≤ z ∧ z ≤ IntKind.i64.max := by
    obtain ⟨v, u, h1, h2, h3⟩ := key 39 (by omega)
    have : u = tn := (Option.some.inj h2).symm
    subst this
    obtain ⟨z, rfl, hz⟩ := cell_int hn h3
    exact ⟨z, h1, hz⟩
  obtain ⟨ys, n8, _, _, _, hyl, hg⟩ := DataW.trod_struct ht hf
  have g8 := hg 8 f8 h8
  rw [e8, o8, c8] at g8
  have e40 : ((Value.agg { toList := l }).cells.toList.drop 40).take 1 = [l[40]'(by omega)] := by
    have : (Value.agg { toList := l }).cells.toList = l := by simp [Value.cells]
    rw [this, List.drop_eq_getElem_cons (by omega)]
    rfl
  rw [e40] at g8
  have h40 : l[40]? = some (l[40]'(by omega)) := List.getElem?_eq_getElem _
  have fin : ∃ A n c zs, l[40]? = some (.slice A n c) ∧ n ≤ c ∧ c ≤ 9223372036854775807 ∧ Nums .u8 w w.heap.size A n zs ∧ ∀ x ∈ zs, (Lit.int .u8 x).wf = true := by
    cases hy8 : ys[8]? with
    | none =>
      have h1 := (Array.getElem?_eq_some_iff.1 h8).1
      have h2 := List.getElem?_eq_none_iff.1 hy8
      omega
    | some y8 =>
      rw [hy8] at g8
      rcases open_ints hs hi ci g8 with ⟨hcs, _⟩ | ⟨x, ln, cp, zs, hcs, _, hl', hm, hz, _, hcell', hwz⟩
      · have e1 := (List.cons.inj hcs).1
        rw [h40, e1]
        exact ⟨none, 0, 0, [], rfl, Nat.le_refl _, Nat.zero_le _, Nums.none_ 0, by simp⟩
      · have e1 := (List.cons.inj hcs).1
        rw [h40, e1]
        unfold maxLen at hm
        rw [hsp, if_pos rfl] at hz
        refine ⟨some x, ln, cp, zs.take ln, rfl, hl', by omega, ⟨by simp; omega, fun hn => ?_⟩, fun n hn => hwz n (List.mem_of_mem_take hn)⟩
        obtain ⟨b, off, spot⟩ := x
        have hc := hcell' 0 (by omega)
        have hspot : spot = none := by simpa [Addr.add] using World.cell?_spot hc
        subst hspot
        refine ⟨b, off, rfl, ?_, fun i hi => ?_⟩
        · have := World.block_lt_of_cell? _ _ hc
          rw [memC.add_plain] at this
          exact this
        · have h1 := hcell' i (by omega)
          have h2 : (zs.take ln).getD i 0 = zs.getD i 0 := by simp [List.getD_eq_getElem?_getD, hi]
          rw [memC.add_plain] at h1
          rw [h2]; exact h1
  obtain ⟨A, n, c, zs, hA, hnc, hcm, hN, hwf⟩ := fin
  refine ⟨⟨s, a, s', b, x34, x35, x36, x37, x38, x39⟩, A, n, c, zs, ?_, ⟨la, lb, ya, yb, y34, y35, by simpa [IntKind.min, IntKind.max, IntKind.signed, IntKind.bits] using y36, by simpa [IntKind.min, IntKind.max, IntKind.signed, IntKind.bits] using y39⟩, hnc, hcm, hN, fun x hx => ?_⟩
  · unfold pktV
    congr 2
    unfold pktL
    rw [← ea, ← eb]
    apply List.ext_getElem?
    intro j
    have l1 : ((l.drop 0).take 17).length = 17 := by rw [List.length_take, List.length_drop]; omega
    have l2 : ((l.drop 17).take 17).length = 17 := by rw [List.length_take, List.length_drop]; omega
    by_cases hj : j < 17
    · rw [List.getElem?_append_left (by omega), List.getElem?_take_of_lt hj, List.getElem?_drop, Nat.zero_add]
    · rw [List.getElem?_append_right (by omega), l1]
      by_cases hj2 : j < 34
      · rw [List.getElem?_append_left (by omega), List.getElem?_take_of_lt (by omega), List.getElem?_drop]
        congr 1; omega
      · rw [List.getElem?_append_right (by omega), l2]
        obtain ⟨k, rfl⟩ : ∃ k, j = 34 + k := ⟨j - 34, by omega⟩
        have ek : 34 + k - 17 - 17 = k := by omega
        rw [ek]
        match k with
        | 0 => exact h34
        | 1 => exact h35
        | 2 => exact h36
        | 3 => exact h37
        | 4 => exact h38
        | 5 => exact h39
        | 6 => exact hA
        | k + 7 => rw [List.getElem?_eq_none (by omega)]; rfl
  · have := hwf x hx
    simpa [Lit.wf, Byte, IntKind.min, IntKind.max, IntKind.signed, IntKind.bits] using this
end Go.Proofs.Ytcnnpfjommiafaa.pkC

/-
  Which operation a walk stands at: told by its form alone, so that an arm that does not fit falls at once.
-/
namespace Go.Proofs.Ytcnnpfjommiafaa.atC
open Go.ChangeShapes Go.WideShapes Go.ChangeAt Go.RowKit
section
variable {P : Program} {ops : Array Oper} {rest : List Oper} {a : Act} {w : World} {Q : Exit → Act → World → Prop} {d : Option Tmp} {t : TypeId} {p : String} {f : Array Edge} {g : Option (Nat × Bool)}
theorem at_load (ty : TypeId) (s : Tmp) (h : wpList P ops Q (⟨d, .load ty (.tmp s), t, p, f, g⟩ :: rest) a w) : wpList P ops Q (⟨d, .load ty (.tmp s), t, p, f, g⟩ :: rest) a w := h
theorem at_bin {x y : Operand} {r : TypeId} (o : BinOp) (ty : TypeId) (h : wpList P ops Q (⟨d, .binOp o ty x y r, t, p, f, g⟩ :: rest) a w) : wpList P ops Q (⟨d, .binOp o ty x y r, t, p, f, g⟩ :: rest) a w := h
theorem at_one {o : Oper} (h : wpList P ops Q (o :: rest) a w) : wpList P ops Q (o :: rest) a w := h
end
end Go.Proofs.Ytcnnpfjommiafaa.atC

/-
  Whether a packet may be: the document's.
-/
namespace Go.Proofs.Ytcnnpfjommiafaa.pkC
open Go.ChangeShapes Go.WideShapes Go.ChangeAt Go.RowKit
open Go.Proofs.Ytcnnpfjommiafaa.memC Go.Proofs.Ytcnnpfjommiafaa.genC Go.Proofs.Ytcnnpfjommiafaa.butC Go.Proofs.Ytcnnpfjommiafaa.freeC Go.Proofs.Ytcnnpfjommiafaa.adC
set_option linter.unusedVariables false
set_option maxRecDepth 100000 in
set_option maxHeartbeats 4000000 in
theorem rmay_pkt (p : Pkt) (A : Option Addr) (n c : Nat) (w : World) (hp : p.Ok) (hn : n ≤ 9223372036854775807) :
    Calls Try.prog 39 #[.agg (pktV p A n c)] w (Ret w (.bool (mayB p n))) := by
  obtain ⟨W, hW⟩ : ∃ W, W = w.alloc (.cells (pktV p A n c) 28) := ⟨_, rfl⟩
  have R0 := Lib.hid (show W.heap[w.heap.size]? = some (.cells (pktV p A n c) 28 (0, 0)) by rw [hW]; exact heap_alloc_new w _)
  have HB := Lib.hid (show Below w.heap.size w W by rw [hW]; exact alloc_below _ _)
  have c0 := pkC hp A n c
  have IA := Lib.hid (adrC_info (s := p.s) hp.la)
  have IC := Lib.hid (adrC_info (s := p.t) hp.lb)
  have KR := Lib.hid (fun (w' : World) (h : Below W.heap.size W w') => (show w'.heap[w.heap.size]? = some (.cells (pktV p A n c) 28 (0, 0)) by rw [h.block _ (lt_of_row R0.out)]; exact R0.out))
  have SA := Lib.hid (fun w' h => PkC.part (KR.out w' h) c0.src)
  have SC := Lib.hid (fun w' h => PkC.part (KR.out w' h) c0.dst)
  have M0 := Lib.hid (fun w' => rmay_any p.s p.a w' hp.la)
  have M1 := Lib.hid (fun w' => rmay_any p.t p.b w' hp.lb)
  rw [← adrC_arr] at M0 M1
  have k0 : W.cell? ⟨w.heap.size, 0, none⟩ = some (.bool p.s) := PkC.cell R0.out (c0.src 0 _ rfl)
  have k17 : W.cell? ⟨w.heap.size, 17, none⟩ = some (.bool p.t) := PkC.cell R0.out (c0.dst 0 _ rfl)
  have Kid := Lib.hid (fun w' h => PkC.cell (KR.out w' h) c0.id)
  have Kwhole := Lib.hid (fun w' h => PkC.cell (KR.out w' h) c0.whole)
  have Kmore := Lib.hid (fun w' h => PkC.cell (KR.out w' h) c0.more)
  have Koff := Lib.hid (fun w' h => PkC.cell (KR.out w' h) c0.off)
  have Kload := Lib.hid (fun w' h => PkC.cell (KR.out w' h) c0.load)
  obtain ⟨V, hV⟩ : ∃ V, V = mayB p n := ⟨_, rfl⟩
  rw [← hV]
  unfold mayB at hV
  have hi := hp.id
  have ho := hp.off
  generalize mayL p.s p.a = m1 at *
  generalize mayL p.t p.b = m2 at *
  generalize adrC p.s p.a = LA at *
  generalize adrC p.t p.b = LC at *
  generalize pktV p A n c = CP at *
  generalize p.s = s1 at *
  generalize p.t = t1 at *
  generalize p.id = id1 at *
  generalize p.whole = whole1 at *
  generalize p.more = more1 at *
  generalize p.off = off1 at *
  have HV := Lib.hid hV
  obtain ⟨hi0, hi1⟩ := hi
  obtain ⟨ho0, ho1⟩ := ho
  clear hp c0 hV KR
  go_enter Try.func39, Try.ntmps39
  go_upto_region 1 with fail
  rw [← hW]
  clear hW
  have HW := Lib.hid (Below.refl W.heap.size W)
  cases s1
  · cases t1
    · cases m1
      · have hv := Lib.hid (show V = false by rw [HV.out]; simp [*])
        go_wp2_with (first
          | go_skip
          | (with_reducible refine atC.at_load 24 12 ?_; refine wpList_load_partG (by kernel_rfl) 24 (.tmp 12) rfl w.heap.size 0 (by kernel_rfl) LA _ (SA.out _ HW.out) Try.underlying24 rfl IA.out ?_)
          | (with_reducible refine atC.at_load 24 18 ?_; refine wpList_load_partG (by kernel_rfl) 24 (.tmp 18) rfl w.heap.size 17 (by kernel_rfl) LC _ (SC.out _ HW2.out) Try.underlying24 rfl IC.out ?_)
          | (go_at_call 56; (with_reducible refine (M0.out _).mono ?_); rintro e w2 ⟨rfl, BB⟩
             have HW2 := Lib.hid BB
             clear BB)
          | (go_at_call 56; (with_reducible refine (M1.out _).mono ?_); rintro e w3 ⟨rfl, BB⟩
             have HW3 := Lib.hid (HW2.out.trans (BB.mono HW2.out.size))
             clear BB
             have k36 := Kid.out _ HW3.out
             have k37 := Kwhole.out _ HW3.out
             have k38 := Kmore.out _ HW3.out
             have k39 := Koff.out _ HW3.out
             have k40 := Kload.out _ HW3.out))
        go_ret
        exact ⟨ret_bool hv.out.symm, (HB.out.trans (HW2.out.mono HB.out.size))⟩
      · cases m2
        · have hv := Lib.hid (show V = false by rw [HV.out]; simp [*])
          go_wp2_with (first
            | go_skip
            | (with_reducible refine atC.at_load 24 12 ?_; refine wpList_load_partG (by kernel_rfl) 24 (.tmp 12) rfl w.heap.size 0 (by kernel_rfl) LA _ (SA.out _ HW.out) Try.underlying24 rfl IA.out ?_)
            | (with_reducible refine atC.at_load 24 18 ?_; refine wpList_load_partG (by kernel_rfl) 24 (.tmp 18) rfl w.heap.size 17 (by kernel_rfl) LC _ (SC.out _ HW2.out) Try.underlying24 rfl IC.out ?_)
            | (go_at_call 56; (with_reducible refine (M0.out _).mono ?_); rintro e w2 ⟨rfl, BB⟩
               have HW2 := Lib.hid BB
               clear BB)
            | (go_at_call 56; (with_reducible refine (M1.out _).mono ?_); rintro e w3 ⟨rfl, BB⟩
               have HW3 := Lib.hid (HW2.out.trans (BB.mono HW2.out.size))
               clear BB
               have k36 := Kid.out _ HW3.out
               have k37 := Kwhole.out _ HW3.out
               have k38 := Kmore.out _ HW3.out
               have k39 := Koff.out _ HW3.out
               have k40 := Kload.out _ HW3.out))
          go_ret
          exact ⟨ret_bool hv.out.symm, (HB.out.trans (HW3.out.mono HB.out.size))⟩
        · by_cases h1 : 65535 < id1
          · have g1 : ¬ id1 ≤ 65535 := by omega
            have hv := Lib.hid (show V = false by rw [HV.out]; simp [*])
            go_wp2_with (first
              | go_skip
              | (with_reducible refine atC.at_load 24 12 ?_; refine wpList_load_partG (by kernel_rfl) 24 (.tmp 12) rfl w.heap.size 0 (by kernel_rfl) LA _ (SA.out _ HW.out) Try.underlying24 rfl IA.out ?_)
              | (with_reducible refine atC.at_load 24 18 ?_; refine wpList_load_partG (by kernel_rfl) 24 (.tmp 18) rfl w.heap.size 17 (by kernel_rfl) LC _ (SC.out _ HW2.out) Try.underlying24 rfl IC.out ?_)
              | (go_at_call 56; (with_reducible refine (M0.out _).mono ?_); rintro e w2 ⟨rfl, BB⟩
                 have HW2 := Lib.hid BB
                 clear BB)
              | (go_at_call 56; (with_reducible refine (M1.out _).mono ?_); rintro e w3 ⟨rfl, BB⟩
                 have HW3 := Lib.hid (HW2.out.trans (BB.mono HW2.out.size))
                 clear BB
                 have k36 := Kid.out _ HW3.out
                 have k37 := Kwhole.out _ HW3.out
                 have k38 := Kmore.out _ HW3.out
                 have k39 := Koff.out _ HW3.out
                 have k40 := Kload.out _ HW3.out))
            go_ret
            exact ⟨ret_bool hv.out.symm, (HB.out.trans (HW3.out.mono HB.out.size))⟩
          · have d1 : decide (65535 < id1) = false := decide_eq_false h1
            have g1 : id1 ≤ 65535 := by omega
            by_cases h2 : off1 < 0
            · have g2 : ¬ 0 ≤ off1 := by omega
              have hv := Lib.hid (show V = false by rw [HV.out]; simp [*])
              go_wp2_with (first
                | go_skip
                | (with_reducible refine atC.at_load 24 12 ?_; refine wpList_load_partG (by kernel_rfl) 24 (.tmp 12) rfl w.heap.size 0 (by kernel_rfl) LA _ (SA.out _ HW.out) Try.underlying24 rfl IA.out ?_)
                | (with_reducible refine atC.at_load 24 18 ?_; refine wpList_load_partG (by kernel_rfl) 24 (.tmp 18) rfl w.heap.size 17 (by kernel_rfl) LC _ (SC.out _ HW2.out) Try.underlying24 rfl IC.out ?_)
                | (go_at_call 56; (with_reducible refine (M0.out _).mono ?_); rintro e w2 ⟨rfl, BB⟩
                   have HW2 := Lib.hid BB
                   clear BB)
                | (go_at_call 56; (with_reducible refine (M1.out _).mono ?_); rintro e w3 ⟨rfl, BB⟩
                   have HW3 := Lib.hid (HW2.out.trans (BB.mono HW2.out.size))
                   clear BB
                   have k36 := Kid.out _ HW3.out
                   have k37 := Kwhole.out _ HW3.out
                   have k38 := Kmore.out _ HW3.out
                   have k39 := Koff.out _ HW3.out
                   have k40 := Kload.out _ HW3.out))
              go_ret
              exact ⟨ret_bool hv.out.symm, (HB.out.trans (HW3.out.mono HB.out.size))⟩
            · have d2 : decide (off1 < 0) = false := decide_eq_false h2
              have g2 : 0 ≤ off1 := by omega
              by_cases h3 : ¬ off1 % 8 = 0
              · have d3 : (off1.tmod 8 == 0) = false := beq_eq_false_iff_ne.2 (by rw [Int.tmod_eq_emod_of_nonneg g2]; exact h3)
                have hv := Lib.hid (show V = false by rw [HV.out]; simp [*])
                go_wp2_with (first
                  | go_skip
                  | (with_reducible refine atC.at_load 24 12 ?_; refine wpList_load_partG (by kernel_rfl) 24 (.tmp 12) rfl w.heap.size 0 (by kernel_rfl) LA _ (SA.out _ HW.out) Try.underlying24 rfl IA.out ?_)
                  | (with_reducible refine atC.at_load 24 18 ?_; refine wpList_load_partG (by kernel_rfl) 24 (.tmp 18) rfl w.heap.size 17 (by kernel_rfl) LC _ (SC.out _ HW2.out) Try.underlying24 rfl IC.out ?_)
                  | (go_at_call 56; (with_reducible refine (M0.out _).mono ?_); rintro e w2 ⟨rfl, BB⟩
                     have HW2 := Lib.hid BB
                     clear BB)
                  | (go_at_call 56; (with_reducible refine (M1.out _).mono ?_); rintro e w3 ⟨rfl, BB⟩
                     have HW3 := Lib.hid (HW2.out.trans (BB.mono HW2.out.size))
                     clear BB
                     have k36 := Kid.out _ HW3.out
                     have k37 := Kwhole.out _ HW3.out
                     have k38 := Kmore.out _ HW3.out
                     have k39 := Koff.out _ HW3.out
                     have k40 := Kload.out _ HW3.out))
                go_ret
                exact ⟨ret_bool hv.out.symm, (HB.out.trans (HW3.out.mono HB.out.size))⟩
              · have h3 : off1 % 8 = 0 := by omega
                have d3 : off1.tmod 8 = 0 := by rw [Int.tmod_eq_emod_of_nonneg g2]; exact h3
                by_cases h4 : 65515 < (n : Int)
                · have g4 : ¬ (n : Int) ≤ 65515 := by omega
                  have hv := Lib.hid (show V = false by rw [HV.out]; simp [*])
                  go_wp2_with (first
                    | go_skip
                    | (with_reducible refine atC.at_load 24 12 ?_; refine wpList_load_partG (by kernel_rfl) 24 (.tmp 12) rfl w.heap.size 0 (by kernel_rfl) LA _ (SA.out _ HW.out) Try.underlying24 rfl IA.out ?_)
                    | (with_reducible refine atC.at_load 24 18 ?_; refine wpList_load_partG (by kernel_rfl) 24 (.tmp 18) rfl w.heap.size 17 (by kernel_rfl) LC _ (SC.out _ HW2.out) Try.underlying24 rfl IC.out ?_)
                    | (go_at_call 56; (with_reducible refine (M0.out _).mono ?_); rintro e w2 ⟨rfl, BB⟩
                       have HW2 := Lib.hid BB
                       clear BB)
                    | (go_at_call 56; (with_reducible refine (M1.out _).mono ?_); rintro e w3 ⟨rfl, BB⟩
                       have HW3 := Lib.hid (HW2.out.trans (BB.mono HW2.out.size))
                       clear BB
                       have k36 := Kid.out _ HW3.out
                       have k37 := Kwhole.out _ HW3.out
                       have k38 := Kmore.out _ HW3.out
                       have k39 := Koff.out _ HW3.out
                       have k40 := Kload.out _ HW3.out))
                  go_ret
                  exact ⟨ret_bool hv.out.symm, (HB.out.trans (HW3.out.mono HB.out.size))⟩
                · have d4 : decide (65515 < (n : Int)) = false := decide_eq_false h4
                  have g4 : (n : Int) ≤ 65515 := by omega
                  by_cases h5 : 65515 - (n : Int) < off1
                  · have g5 : ¬ off1 ≤ 65515 - (n : Int) := by omega
                    have hv := Lib.hid (show V = false by rw [HV.out]; simp [*])
                    go_wp2_with (first
                      | go_skip
                      | (with_reducible refine atC.at_load 24 12 ?_; refine wpList_load_partG (by kernel_rfl) 24 (.tmp 12) rfl w.heap.size 0 (by kernel_rfl) LA _ (SA.out _ HW.out) Try.underlying24 rfl IA.out ?_)
                      | (with_reducible refine atC.at_load 24 18 ?_; refine wpList_load_partG (by kernel_rfl) 24 (.tmp 18) rfl w.heap.size 17 (by kernel_rfl) LC _ (SC.out _ HW2.out) Try.underlying24 rfl IC.out ?_)
                      | (go_at_call 56; (with_reducible refine (M0.out _).mono ?_); rintro e w2 ⟨rfl, BB⟩
                         have HW2 := Lib.hid BB
                         clear BB)
                      | (go_at_call 56; (with_reducible refine (M1.out _).mono ?_); rintro e w3 ⟨rfl, BB⟩
                         have HW3 := Lib.hid (HW2.out.trans (BB.mono HW2.out.size))
                         clear BB
                         have k36 := Kid.out _ HW3.out
                         have k37 := Kwhole.out _ HW3.out
                         have k38 := Kmore.out _ HW3.out
                         have k39 := Koff.out _ HW3.out
                         have k40 := Kload.out _ HW3.out))
                    go_ret
                    exact ⟨ret_bool hv.out.symm, (HB.out.trans (HW3.out.mono HB.out.size))⟩
                  · have d5 : decide (65515 - (n : Int) < off1) = false := decide_eq_false h5
                    have g5 : off1 ≤ 65515 - (n : Int) := by omega
                    cases more1
                    · cases whole1
                      · have hv := Lib.hid (show V = true by rw [HV.out]; simp [*])
                        go_wp2_with (first
                          | go_skip
                          | (with_reducible refine atC.at_load 24 12 ?_; refine wpList_load_partG (by kernel_rfl) 24 (.tmp 12) rfl w.heap.size 0 (by kernel_rfl) LA _ (SA.out _ HW.out) Try.underlying24 rfl IA.out ?_)
                          | (with_reducible refine atC.at_load 24 18 ?_; refine wpList_load_partG (by kernel_rfl) 24 (.tmp 18) rfl w.heap.size 17 (by kernel_rfl) LC _ (SC.out _ HW2.out) Try.underlying24 rfl IC.out ?_)
                          | (go_at_call 56; (with_reducible refine (M0.out _).mono ?_); rintro e w2 ⟨rfl, BB⟩
                             have HW2 := Lib.hid BB
                             clear BB)
                          | (go_at_call 56; (with_reducible refine (M1.out _).mono ?_); rintro e w3 ⟨rfl, BB⟩
                             have HW3 := Lib.hid (HW2.out.trans (BB.mono HW2.out.size))
                             clear BB
                             have k36 := Kid.out _ HW3.out
                             have k37 := Kwhole.out _ HW3.out
                             have k38 := Kmore.out _ HW3.out
                             have k39 := Koff.out _ HW3.out
                             have k40 := Kload.out _ HW3.out))
                        go_ret
                        exact ⟨ret_bool hv.out.symm, (HB.out.trans (HW3.out.mono HB.out.size))⟩
                      · by_cases h0 : off1 = 0
                        · have hv := Lib.hid (show V = true by rw [HV.out]; simp [*])
                          go_wp2_with (first
                            | go_skip
                            | (with_reducible refine atC.at_load 24 12 ?_; refine wpList_load_partG (by kernel_rfl) 24 (.tmp 12) rfl w.heap.size 0 (by kernel_rfl) LA _ (SA.out _ HW.out) Try.underlying24 rfl IA.out ?_)
                            | (with_reducible refine atC.at_load 24 18 ?_; refine wpList_load_partG (by kernel_rfl) 24 (.tmp 18) rfl w.heap.size 17 (by kernel_rfl) LC _ (SC.out _ HW2.out) Try.underlying24 rfl IC.out ?_)
                            | (go_at_call 56; (with_reducible refine (M0.out _).mono ?_); rintro e w2 ⟨rfl, BB⟩
                               have HW2 := Lib.hid BB
                               clear BB)
                            | (go_at_call 56; (with_reducible refine (M1.out _).mono ?_); rintro e w3 ⟨rfl, BB⟩
                               have HW3 := Lib.hid (HW2.out.trans (BB.mono HW2.out.size))
                               clear BB
                               have k36 := Kid.out _ HW3.out
                               have k37 := Kwhole.out _ HW3.out
                               have k38 := Kmore.out _ HW3.out
                               have k39 := Koff.out _ HW3.out
                               have k40 := Kload.out _ HW3.out))
                          go_ret
                          exact ⟨ret_bool hv.out.symm, (HB.out.trans (HW3.out.mono HB.out.size))⟩
                        · have q0 : (off1 == 0) = false := beq_eq_false_iff_ne.2 h0
                          have hv := Lib.hid (show V = false by rw [HV.out]; simp [*])
                          go_wp2_with (first
                            | go_skip
                            | (with_reducible refine atC.at_load 24 12 ?_; refine wpList_load_partG (by kernel_rfl) 24 (.tmp 12) rfl w.heap.size 0 (by kernel_rfl) LA _ (SA.out _ HW.out) Try.underlying24 rfl IA.out ?_)
                            | (with_reducible refine atC.at_load 24 18 ?_; refine wpList_load_partG (by kernel_rfl) 24 (.tmp 18) rfl w.heap.size 17 (by kernel_rfl) LC _ (SC.out _ HW2.out) Try.underlying24 rfl IC.out ?_)
                            | (go_at_call 56; (with_reducible refine (M0.out _).mono ?_); rintro e w2 ⟨rfl, BB⟩
                               have HW2 := Lib.hid BB
                               clear BB)
                            | (go_at_call 56; (with_reducible refine (M1.out _).mono ?_); rintro e w3 ⟨rfl, BB⟩
                               have HW3 := Lib.hid (HW2.out.trans (BB.mono HW2.out.size))
                               clear BB
                               have k36 := Kid.out _ HW3.out
                               have k37 := Kwhole.out _ HW3.out
                               have k38 := Kmore.out _ HW3.out
                               have k39 := Koff.out _ HW3.out
                               have k40 := Kload.out _ HW3.out))
                          go_ret
                          exact ⟨ret_bool hv.out.symm, (HB.out.trans (HW3.out.mono HB.out.size))⟩
                    · by_cases h8 : n % 8 = 0
                      · have t8 : (n : Int).tmod 8 = 0 := by rw [Int.tmod_eq_emod_of_nonneg (by omega)]; omega
                        cases whole1
                        · have hv := Lib.hid (show V = true by rw [HV.out]; simp [*])
                          go_wp2_with (first
                            | go_skip
                            | (with_reducible refine atC.at_load 24 12 ?_; refine wpList_load_partG (by kernel_rfl) 24 (.tmp 12) rfl w.heap.size 0 (by kernel_rfl) LA _ (SA.out _ HW.out) Try.underlying24 rfl IA.out ?_)
                            | (with_reducible refine atC.at_load 24 18 ?_; refine wpList_load_partG (by kernel_rfl) 24 (.tmp 18) rfl w.heap.size 17 (by kernel_rfl) LC _ (SC.out _ HW2.out) Try.underlying24 rfl IC.out ?_)
                            | (go_at_call 56; (with_reducible refine (M0.out _).mono ?_); rintro e w2 ⟨rfl, BB⟩
                               have HW2 := Lib.hid BB
                               clear BB)
                            | (go_at_call 56; (with_reducible refine (M1.out _).mono ?_); rintro e w3 ⟨rfl, BB⟩
                               have HW3 := Lib.hid (HW2.out.trans (BB.mono HW2.out.size))
                               clear BB
                               have k36 := Kid.out _ HW3.out
                               have k37 := Kwhole.out _ HW3.out
                               have k38 := Kmore.out _ HW3.out
                               have k39 := Koff.out _ HW3.out
                               have k40 := Kload.out _ HW3.out))
                          go_ret
                          exact ⟨ret_bool hv.out.symm, (HB.out.trans (HW3.out.mono HB.out.size))⟩
                        · have hv := Lib.hid (show V = false by rw [HV.out]; simp [*])
                          go_wp2_with (first
                            | go_skip
                            | (with_reducible refine atC.at_load 24 12 ?_; refine wpList_load_partG (by kernel_rfl) 24 (.tmp 12) rfl w.heap.size 0 (by kernel_rfl) LA _ (SA.out _ HW.out) Try.underlying24 rfl IA.out ?_)
                            | (with_reducible refine atC.at_load 24 18 ?_; refine wpList_load_partG (by kernel_rfl) 24 (.tmp 18) rfl w.heap.size 17 (by kernel_rfl) LC _ (SC.out _ HW2.out) Try.underlying24 rfl IC.out ?_)
                            | (go_at_call 56; (with_reducible refine (M0.out _).mono ?_); rintro e w2 ⟨rfl, BB⟩
                               have HW2 := Lib.hid BB
                               clear BB)
                            | (go_at_call 56; (with_reducible refine (M1.out _).mono ?_); rintro e w3 ⟨rfl, BB⟩
                               have HW3 := Lib.hid (HW2.out.trans (BB.mono HW2.out.size))
                               clear BB
                               have k36 := Kid.out _ HW3.out
                               have k37 := Kwhole.out _ HW3.out
                               have k38 := Kmore.out _ HW3.out
                               have k39 := Koff.out _ HW3.out
                               have k40 := Kload.out _ HW3.out))
                          go_ret
                          exact ⟨ret_bool hv.out.symm, (HB.out.trans (HW3.out.mono HB.out.size))⟩
                      · have t8 : ((n : Int).tmod 8 == 0) = false := beq_eq_false_iff_ne.2 (by rw [Int.tmod_eq_emod_of_nonneg (by omega)]; omega)
                        have hv := Lib.hid (show V = false by rw [HV.out]; simp [*])
                        go_wp2_with (first
                          | go_skip
                          | (with_reducible refine atC.at_load 24 12 ?_; refine wpList_load_partG (by kernel_rfl) 24 (.tmp 12) rfl w.heap.size 0 (by kernel_rfl) LA _ (SA.out _ HW.out) Try.underlying24 rfl IA.out ?_)
                          | (with_reducible refine atC.at_load 24 18 ?_; refine wpList_load_partG (by kernel_rfl) 24 (.tmp 18) rfl w.heap.size 17 (by kernel_rfl) LC _ (SC.out _ HW2.out) Try.underlying24 rfl IC.out ?_)
                          | (go_at_call 56; (with_reducible refine (M0.out _).mono ?_); rintro e w2 ⟨rfl, BB⟩
                             have HW2 := Lib.hid BB
                             clear BB)
                          | (go_at_call 56; (with_reducible refine (M1.out _).mono ?_); rintro e w3 ⟨rfl, BB⟩
                             have HW3 := Lib.hid (HW2.out.trans (BB.mono HW2.out.size))
                             clear BB
                             have k36 := Kid.out _ HW3.out
                             have k37 := Kwhole.out _ HW3.out
                             have k38 := Kmore.out _ HW3.out
                             have k39 := Koff.out _ HW3.out
                             have k40 := Kload.out _ HW3.out))
                        go_ret
                        exact ⟨ret_bool hv.out.symm, (HB.out.trans (HW3.out.mono HB.out.size))⟩
    · have hv := Lib.hid (show V = false by rw [HV.out]; simp [*])
      go_wp2_with (first
        | go_skip
        | (with_reducible refine atC.at_load 24 12 ?_; refine wpList_load_partG (by kernel_rfl) 24 (.tmp 12) rfl w.heap.size 0 (by kernel_rfl) LA _ (SA.out _ HW.out) Try.underlying24 rfl IA.out ?_)
        | (with_reducible refine atC.at_load 24 18 ?_; refine wpList_load_partG (by kernel_rfl) 24 (.tmp 18) rfl w.heap.size 17 (by kernel_rfl) LC _ (SC.out _ HW2.out) Try.underlying24 rfl IC.out ?_)
        | (go_at_call 56; (with_reducible refine (M0.out _).mono ?_); rintro e w2 ⟨rfl, BB⟩
           have HW2 := Lib.hid BB
           clear BB)
        | (go_at_call 56; (with_reducible refine (M1.out _).mono ?_); rintro e w3 ⟨rfl, BB⟩
           have HW3 := Lib.hid (HW2.out.trans (BB.mono HW2.out.size))
           clear BB
           have k36 := Kid.out _ HW3.out
           have k37 := Kwhole.out _ HW3.out
           have k38 := Kmore.out _ HW3.out
           have k39 := Koff.out _ HW3.out
           have k40 := Kload.out _ HW3.out))
      go_ret
      exact ⟨ret_bool hv.out.symm, HB.out⟩
  · have hv := Lib.hid (show V = false by rw [HV.out]; simp [*])
    go_wp2_with (first
      | go_skip
      | (with_reducible refine atC.at_load 24 12 ?_; refine wpList_load_partG (by kernel_rfl) 24 (.tmp 12) rfl w.heap.size 0 (by kernel_rfl) LA _ (SA.out _ HW.out) Try.underlying24 rfl IA.out ?_)
      | (with_reducible refine atC.at_load 24 18 ?_; refine wpList_load_partG (by kernel_rfl) 24 (.tmp 18) rfl w.heap.size 17 (by kernel_rfl) LC _ (SC.out _ HW2.out) Try.underlying24 rfl IC.out ?_)
      | (go_at_call 56; (with_reducible refine (M0.out _).mono ?_); rintro e w2 ⟨rfl, BB⟩
         have HW2 := Lib.hid BB
         clear BB)
      | (go_at_call 56; (with_reducible refine (M1.out _).mono ?_); rintro e w3 ⟨rfl, BB⟩
         have HW3 := Lib.hid (HW2.out.trans (BB.mono HW2.out.size))
         clear BB
         have k36 := Kid.out _ HW3.out
         have k37 := Kwhole.out _ HW3.out
         have k38 := Kmore.out _ HW3.out
         have k39 := Koff.out _ HW3.out
         have k40 := Kload.out _ HW3.out))
    go_ret
    exact ⟨ret_bool hv.out.symm, HB.out⟩
end Go.Proofs.Ytcnnpfjommiafaa.pkC

/-
  What fit and the code's Put do (as stage 2 told it, without what its statements name).
-/
namespace Go.Proofs.Ytcnnpfjommiafaa.octC
open Go.ChangeShapes Go.WideShapes Go.ChangeAt Go.RowKit
open Go.Proofs.Ytcnnpfjommiafaa.memC
set_option linter.unusedVariables false
theorem byte_info : (Try.prog.info? 5).map (fun i => (i.zero, i.size, i.bytes)) = some (some (.int .u8 0), 1, 1) := by kernel_rfl
end Go.Proofs.Ytcnnpfjommiafaa.octC

/-
  Packets of IPv6, laid, read, wrapped and turned: plain mathematics over their bytes.
-/
namespace Go.Proofs.Ytcnnpfjommiafaa.sxC
open Go.ChangeShapes Go.WideShapes Go.ChangeAt Go.RowKit
open Go.Proofs.Ytcnnpfjommiafaa.memC Go.Proofs.Ytcnnpfjommiafaa.genC Go.Proofs.Ytcnnpfjommiafaa.adC Go.Proofs.Ytcnnpfjommiafaa.pkC
set_option linter.unusedVariables false
/-- two bytes, and four, as a number -/
def w2 (bs : List Int) (i : Nat) : Int := bs.getD i 0 * 256 + bs.getD (i + 1) 0
/-- is a kind a header that tells its length, or one that is gone past? -/
def tellB (x : Int) : Bool := decide (x = 0) || (decide (x = 43) || decide (x = 60))
def knownB (x : Int) : Bool := decide (x = 44) || tellB x
/-- whether a packet may be, by the length of its load -/
def mayS (p : Pkt) (n : Nat) : Bool :=
  p.s && (p.t && (!knownB p.proto && (decide (0 ≤ p.off) && (decide (p.off % 8 = 0) && (decide (p.off ≤ 65527 - (n : Int)) && ((!p.more || decide (n % 8 = 0)) && (!p.whole || (!p.more && (decide (p.off = 0) && decide (p.id = 0))))))))))
/-- what the headers that are gone past tell -/
structure Hd where
  e : Int
  proto : Int
  whole : Bool
  more : Bool
  off : Int
  id : Int
  rest : List Int
/-- what the headers tell of bytes -/
structure Hd.Ok (h : Hd) : Prop where
  e : 0 ≤ h.e ∧ h.e ≤ 5
  proto : Byte h.proto
  id : 0 ≤ h.id ∧ h.id ≤ 4294967295
  off : 0 ≤ h.off ∧ h.off ≤ 65535
  rest : ∀ x ∈ h.rest, Byte x
end Go.Proofs.Ytcnnpfjommiafaa.sxC

/-
  Which kinds are headers that are gone past: the program's and the document's.
-/
namespace Go.Proofs.Ytcnnpfjommiafaa.sxC
open Go.ChangeShapes Go.WideShapes Go.ChangeAt Go.RowKit
open Go.Proofs.Ytcnnpfjommiafaa.memC Go.Proofs.Ytcnnpfjommiafaa.genC Go.Proofs.Ytcnnpfjommiafaa.adC Go.Proofs.Ytcnnpfjommiafaa.pkC
set_option linter.unusedVariables false
theorem retb {a b : Bool} (h : a = b) : Ending.returned (.bool a) = .returned (.bool b) := by rw [h]
set_option maxRecDepth 100000 in
theorem tells_any (x : Int) (w : World) : Calls Try.prog 63 #[.int .u8 x] w fun e w' => e = .returned (.bool (tellB x)) ∧ w = w' := by
  unfold tellB
  by_cases h0 : x = 0
  · subst h0
    go_enter Try.func63, Try.ntmps63
    go_wp2_with fail
    go_ret
    exact ⟨retb (by decide), rfl⟩
  · have q0 : (x == 0) = false := beq_eq_false_iff_ne.2 h0
    by_cases h1 : x = 43
    · subst h1
      go_enter Try.func63, Try.ntmps63
      go_wp2_with fail
      go_ret
      exact ⟨retb (by decide), rfl⟩
    · have q1 : (x == 43) = false := beq_eq_false_iff_ne.2 h1
      have hv : (decide (x = 0) || (decide (x = 43) || decide (x = 60))) = (x == 60) := by rw [decide_eq_false h0, decide_eq_false h1]; rfl
      rw [hv]
      clear hv h0 h1
      go_enter Try.func63, Try.ntmps63
      go_wp2_with fail
      go_ret
      exact ⟨rfl, rfl⟩
set_option maxRecDepth 100000 in
theorem header_any (x : Int) (w : World) : Calls Try.prog 52 #[.int .u8 x] w fun e w' => e = .returned (.bool (knownB x)) ∧ w = w' := by
  unfold knownB
  have T := Lib.hid (tells_any x w)
  by_cases h0 : x = 44
  · subst h0
    go_enter Try.func52, Try.ntmps52
    go_wp2_with fail
    go_ret
    exact ⟨retb (by decide), rfl⟩
  · have q0 : (x == 44) = false := beq_eq_false_iff_ne.2 h0
    rw [decide_eq_false h0]
    generalize tellB x = t at *
    clear h0
    go_enter Try.func52, Try.ntmps52
    go_wp2_with (first
      | (go_at_call 63; (refine T.out.mono ?_); rintro e w' ⟨rfl, rfl⟩))
    go_ret
    exact ⟨rfl, rfl⟩
set_option maxRecDepth 100000 in
theorem known_any (x : Int) (w : World) : Calls Try.prog 55 #[.int .u8 x] w fun e w' => e = .returned (.bool (knownB x)) ∧ w = w' := by
  unfold knownB tellB
  by_cases h0 : x = 0
  · subst h0
    go_enter Try.func55, Try.ntmps55
    go_wp2_with fail
    go_ret
    exact ⟨retb (by decide), rfl⟩
  · have q0 : (x == 0) = false := beq_eq_false_iff_ne.2 h0
    by_cases h1 : x = 43
    · subst h1
      go_enter Try.func55, Try.ntmps55
      go_wp2_with fail
      go_ret
      exact ⟨retb (by decide), rfl⟩
    · have q1 : (x == 43) = false := beq_eq_false_iff_ne.2 h1
      by_cases h2 : x = 60
      · subst h2
        go_enter Try.func55, Try.ntmps55
        go_wp2_with fail
        go_ret
        exact ⟨retb (by decide), rfl⟩
      · have q2 : (x == 60) = false := beq_eq_false_iff_ne.2 h2
        have hv : (decide (x = 44) || (decide (x = 0) || (decide (x = 43) || decide (x = 60)))) = (x == 44) := by rw [decide_eq_false h0, decide_eq_false h1, decide_eq_false h2]; show (decide (x = 44) || false) = _; rw [Bool.or_false]; rfl
        rw [hv]
        clear hv h0 h1 h2
        go_enter Try.func55, Try.ntmps55
        go_wp2_with fail
        go_ret
        exact ⟨rfl, rfl⟩
end Go.Proofs.Ytcnnpfjommiafaa.sxC

/-
  Whether a packet may be: the document's.
-/
namespace Go.Proofs.Ytcnnpfjommiafaa.sxC
open Go.ChangeShapes Go.WideShapes Go.ChangeAt Go.RowKit
open Go.Proofs.Ytcnnpfjommiafaa.memC Go.Proofs.Ytcnnpfjommiafaa.genC Go.Proofs.Ytcnnpfjommiafaa.adC Go.Proofs.Ytcnnpfjommiafaa.pkC Go.Proofs.Ytcnnpfjommiafaa.freeC
set_option linter.unusedVariables false
set_option maxRecDepth 100000 in
set_option maxHeartbeats 4000000 in
theorem rmay_any (p : Pkt) (A : Option Addr) (n c : Nat) (w : World) (hp : p.Ok) (hn : n ≤ 9223372036854775807) :
    Calls Try.prog 38 #[.agg (pktV p A n c)] w (Ret w (.bool (mayS p n))) := by
  obtain ⟨W, hW⟩ : ∃ W, W = w.alloc (.cells (pktV p A n c) 28) := ⟨_, rfl⟩
  have R0 := Lib.hid (show W.heap[w.heap.size]? = some (.cells (pktV p A n c) 28 (0, 0)) by rw [hW]; exact heap_alloc_new w _)
  have HB := Lib.hid (show Below w.heap.size w W by rw [hW]; exact alloc_below _ _)
  have c0 := pkC hp A n c
  have k0 : W.cell? ⟨w.heap.size, 0, none⟩ = some (.bool p.s) := PkC.cell R0.out (c0.src 0 (.bool p.s) rfl)
  have k17 : W.cell? ⟨w.heap.size, 17, none⟩ = some (.bool p.t) := PkC.cell R0.out (c0.dst 0 (.bool p.t) rfl)
  have k34 := PkC.cell R0.out c0.proto
  have k36 := PkC.cell R0.out c0.id
  have k37 := PkC.cell R0.out c0.whole
  have k38 := PkC.cell R0.out c0.more
  have k39 := PkC.cell R0.out c0.off
  have k40 := PkC.cell R0.out c0.load
  obtain ⟨V, hV⟩ : ∃ V, V = mayS p n := ⟨_, rfl⟩
  rw [← hV]
  unfold mayS at hV
  have hi := hp.id
  have ho := hp.off
  have KN := Lib.hid (known_any p.proto W)
  generalize knownB p.proto = kn at *
  generalize p.proto = proto1 at *
  generalize p.s = s1 at *
  generalize p.t = t1 at *
  generalize pktV p A n c = CP at *
  generalize p.id = id1 at *
  generalize p.whole = whole1 at *
  generalize p.more = more1 at *
  generalize p.off = off1 at *
  have HV := Lib.hid hV
  obtain ⟨hi0, hi1⟩ := hi
  obtain ⟨ho0, ho1⟩ := ho
  clear hp c0 hV
  go_enter Try.func38, Try.ntmps38
  go_upto_region 1 with fail
  rw [← hW]
  clear hW
  cases s1
  · have hv := Lib.hid (show V = false by rw [HV.out]; first | (simp [*]; done) | (simp [*]; omega))
    go_wp2_with (first
      | go_skip
      | (go_at_call 55; (refine KN.out.mono ?_); rintro e w2 ⟨rfl, rfl⟩))
    go_ret
    exact ⟨ret_bool hv.out.symm, HB.out⟩
  · cases t1
    · have hv := Lib.hid (show V = false by rw [HV.out]; first | (simp [*]; done) | (simp [*]; omega))
      go_wp2_with (first
        | go_skip
        | (go_at_call 55; (refine KN.out.mono ?_); rintro e w2 ⟨rfl, rfl⟩))
      go_ret
      exact ⟨ret_bool hv.out.symm, HB.out⟩
    · by_cases h2 : off1 < 0
      · have g2 : ¬ 0 ≤ off1 := by omega
        have hv := Lib.hid (show V = false by rw [HV.out]; first | (simp [*]; done) | (simp [*]; omega))
        go_wp2_with (first
          | go_skip
          | (go_at_call 55; (refine KN.out.mono ?_); rintro e w2 ⟨rfl, rfl⟩))
        go_ret
        exact ⟨ret_bool hv.out.symm, HB.out⟩
      · have d2 : decide (off1 < 0) = false := decide_eq_false h2
        have g2 : 0 ≤ off1 := by omega
        by_cases h3 : ¬ off1 % 8 = 0
        · have d3 : (off1.tmod 8 == 0) = false := beq_eq_false_iff_ne.2 (by rw [Int.tmod_eq_emod_of_nonneg g2]; exact h3)
          have hv := Lib.hid (show V = false by rw [HV.out]; first | (simp [*]; done) | (simp [*]; omega))
          go_wp2_with (first
            | go_skip
            | (go_at_call 55; (refine KN.out.mono ?_); rintro e w2 ⟨rfl, rfl⟩))
          go_ret
          exact ⟨ret_bool hv.out.symm, HB.out⟩
        · have h3 : off1 % 8 = 0 := by omega
          have d3 : off1.tmod 8 = 0 := by rw [Int.tmod_eq_emod_of_nonneg g2]; exact h3
          by_cases h4 : 65528 < off1
          · have g4 : ¬ off1 ≤ 65527 - (n : Int) := by omega
            have hv := Lib.hid (show V = false by rw [HV.out]; first | (simp [*]; done) | (simp [*]; omega))
            go_wp2_with (first
              | go_skip
              | (go_at_call 55; (refine KN.out.mono ?_); rintro e w2 ⟨rfl, rfl⟩))
            go_ret
            exact ⟨ret_bool hv.out.symm, HB.out⟩
          · have d4 : decide (65528 < off1) = false := decide_eq_false h4
            by_cases h6 : (65527 : Int) < (n : Int)
            · have g6 : ¬ off1 ≤ 65527 - (n : Int) := by omega
              have hv := Lib.hid (show V = false by rw [HV.out]; first | (simp [*]; done) | (simp [*]; omega))
              go_wp2_with (first
                | go_skip
                | (go_at_call 55; (refine KN.out.mono ?_); rintro e w2 ⟨rfl, rfl⟩))
              go_ret
              exact ⟨ret_bool hv.out.symm, HB.out⟩
            · have d6 : decide ((65527 : Int) < (n : Int)) = false := decide_eq_false h6
              by_cases h5 : 65527 - (n : Int) < off1
              · have g5 : ¬ off1 ≤ 65527 - (n : Int) := by omega
                have hv := Lib.hid (show V = false by rw [HV.out]; first | (simp [*]; done) | (simp [*]; omega))
                go_wp2_with (first
                  | go_skip
                  | (go_at_call 55; (refine KN.out.mono ?_); rintro e w2 ⟨rfl, rfl⟩))
                go_ret
                exact ⟨ret_bool hv.out.symm, HB.out⟩
              · have d5 : decide (65527 - (n : Int) < off1) = false := decide_eq_false h5
                have g5 : off1 ≤ 65527 - (n : Int) := by omega
                have wn : IntKind.i64.wrap (65527 - (n : Int)) = 65527 - (n : Int) := IntWalk.i64_in _ (by omega)
                cases more1
                · cases kn
                  · cases whole1
                    · have hv := Lib.hid (show V = true by rw [HV.out]; first | (simp [*]; done) | (simp [*]; omega))
                      go_wp2_with (first
                        | go_skip
                        | (go_at_call 55; (refine KN.out.mono ?_); rintro e w2 ⟨rfl, rfl⟩))
                      go_ret
                      exact ⟨ret_bool hv.out.symm, HB.out⟩
                    · by_cases h0 : off1 = 0
                      · by_cases h9 : id1 = 0
                        · have hv := Lib.hid (show V = true by rw [HV.out]; first | (simp [*]; done) | (simp [*]; omega))
                          go_wp2_with (first
                            | go_skip
                            | (go_at_call 55; (refine KN.out.mono ?_); rintro e w2 ⟨rfl, rfl⟩))
                          go_ret
                          exact ⟨ret_bool hv.out.symm, HB.out⟩
                        · have q9 : (id1 == 0) = false := beq_eq_false_iff_ne.2 h9
                          have hv := Lib.hid (show V = false by rw [HV.out]; first | (simp [*]; done) | (simp [*]; omega))
                          go_wp2_with (first
                            | go_skip
                            | (go_at_call 55; (refine KN.out.mono ?_); rintro e w2 ⟨rfl, rfl⟩))
                          go_ret
                          exact ⟨ret_bool hv.out.symm, HB.out⟩
                      · have q0 : (off1 == 0) = false := beq_eq_false_iff_ne.2 h0
                        have hv := Lib.hid (show V = false by rw [HV.out]; first | (simp [*]; done) | (simp [*]; omega))
                        go_wp2_with (first
                          | go_skip
                          | (go_at_call 55; (refine KN.out.mono ?_); rintro e w2 ⟨rfl, rfl⟩))
                        go_ret
                        exact ⟨ret_bool hv.out.symm, HB.out⟩
                  · have hv := Lib.hid (show V = false by rw [HV.out]; first | (simp [*]; done) | (simp [*]; omega))
                    go_wp2_with (first
                      | go_skip
                      | (go_at_call 55; (refine KN.out.mono ?_); rintro e w2 ⟨rfl, rfl⟩))
                    go_ret
                    exact ⟨ret_bool hv.out.symm, HB.out⟩
                · by_cases h8 : n % 8 = 0
                  · have t8 : (n : Int).tmod 8 = 0 := by rw [Int.tmod_eq_emod_of_nonneg (by omega)]; omega
                    cases kn
                    · cases whole1
                      · have hv := Lib.hid (show V = true by rw [HV.out]; first | (simp [*]; done) | (simp [*]; omega))
                        go_wp2_with (first
                          | go_skip
                          | (go_at_call 55; (refine KN.out.mono ?_); rintro e w2 ⟨rfl, rfl⟩))
                        go_ret
                        exact ⟨ret_bool hv.out.symm, HB.out⟩
                      · have hv := Lib.hid (show V = false by rw [HV.out]; first | (simp [*]; done) | (simp [*]; omega))
                        go_wp2_with (first
                          | go_skip
                          | (go_at_call 55; (refine KN.out.mono ?_); rintro e w2 ⟨rfl, rfl⟩))
                        go_ret
                        exact ⟨ret_bool hv.out.symm, HB.out⟩
                    · have hv := Lib.hid (show V = false by rw [HV.out]; first | (simp [*]; done) | (simp [*]; omega))
                      go_wp2_with (first
                        | go_skip
                        | (go_at_call 55; (refine KN.out.mono ?_); rintro e w2 ⟨rfl, rfl⟩))
                      go_ret
                      exact ⟨ret_bool hv.out.symm, HB.out⟩
                  · have t8 : ((n : Int).tmod 8 == 0) = false := beq_eq_false_iff_ne.2 (by rw [Int.tmod_eq_emod_of_nonneg (by omega)]; omega)
                    have hv := Lib.hid (show V = false by rw [HV.out]; first | (simp [*]; done) | (simp [*]; omega))
                    go_wp2_with (first
                      | go_skip
                      | (go_at_call 55; (refine KN.out.mono ?_); rintro e w2 ⟨rfl, rfl⟩))
                    go_ret
                    exact ⟨ret_bool hv.out.symm, HB.out⟩
end Go.Proofs.Ytcnnpfjommiafaa.sxC

/-
  Packets in pieces, over numbers: what is cut, what a table answers; pieces come together.
-/
namespace Go.Proofs.Ytcnnpfjommiafaa.fgC
open Go.Proofs.Ytcnnpfjommiafaa.pkC (Pkt)
set_option linter.unusedVariables false
/-- a packet and its load -/
abbrev Pc := Pkt × List Int
def zPkt : Pkt := ⟨false, List.replicate 16 0, false, List.replicate 16 0, 0, 0, 0, false, false, 0⟩
def zPc : Pc := (zPkt, [])
def mayP (q : Pc) : Bool := if q.1.s = true then sxC.mayS q.1 q.2.length else pkC.mayB q.1 q.2.length
def wholeP (q : Pc) : Bool := decide (q.1.off = 0) && !q.1.more
def headN (six : Bool) : Int := if six then 40 else 20
def pieceN (six : Bool) : Int := if six then 48 else 20
def leastN (six : Bool) : Int := if six then 56 else 28
def sizeN (six : Bool) (mtu : Int) : Nat := ((mtu - pieceN six) / 8 * 8).toNat
/-- a piece that begins at a place -/
def pieceP (q : Pc) (id : Int) (sz at_ : Nat) : Pc :=
  ({ q.1 with whole := false, off := (at_ : Int), id := if q.1.s = true then id else q.1.id, more := decide (at_ + sz < q.2.length) }, (q.2.drop at_).take sz)
def piecesP (q : Pc) (id : Int) (sz : Nat) : Nat → Nat → List Pc
  | 0, _ => []
  | f + 1, at_ => if at_ < q.2.length then pieceP q id sz at_ :: piecesP q id sz f (at_ + sz) else []
/-- whether a packet may not be cut at all -/
def argP (q : Pc) (mtu : Int) : Bool := !mayP q || (!wholeP q || (decide (mtu < leastN q.1.s) || (q.1.s && !q.1.whole)))
def fitsP (q : Pc) (mtu : Int) : Bool := decide ((q.2.length : Int) ≤ mtu - headN q.1.s)
def cutE (q : Pc) (mtu : Int) : Int := if argP q mtu = true then 1 else if fitsP q mtu = true then 0 else if (q.1.whole && !q.1.s) = true then 5 else 0
def cutL (q : Pc) (mtu id : Int) : List Pc := if argP q mtu = true then [] else if fitsP q mtu = true then [q] else if (q.1.whole && !q.1.s) = true then [] else piecesP q id (sizeN q.1.s mtu) q.2.length 0
/-- one name -/
def sameN (a b : Pkt) : Bool := decide (a.s = b.s ∧ a.a = b.a ∧ a.t = b.t ∧ a.b = b.b ∧ a.id = b.id ∧ a.proto = b.proto)
def endP (q : Pc) : Int := q.1.off + (q.2.length : Int)
def dupP (a b : Pc) : Bool := decide (b.1.off = a.1.off) && (decide (b.2.length = a.2.length) && (b.1.more == a.1.more))
def badP (a b : Pc) : Bool := (decide (a.1.off < endP b) && decide (b.1.off < endP a)) || ((!a.1.more && (!b.1.more || decide (endP b > endP a))) || (!b.1.more && decide (endP a > endP b)))
def outP (q : Pc) (load : List Int) : Pc := ({ q.1 with whole := q.1.s, more := false, off := 0, id := if q.1.s = true then 0 else q.1.id }, load)
def joinF (l : List Pc) : Nat → List Int → Pc → Option Pc
  | 0, _, _ => none
  | f + 1, load, first =>
    match l.find? (fun q => decide (q.1.off = (load.length : Int))) with
    | none => joinF l f load first
    | some q => if q.1.more = true then joinF l f (load ++ q.2) (if q.1.off = 0 then q else first) else some (outP (if q.1.off = 0 then q else first) (load ++ q.2))
def joinedP (l : List Pc) : Option Pc := joinF l l.length [] zPc
/-- a table: its room, its time, its packets in the order in which they began: when, and their pieces -/
structure TSt where
  room : Int
  t : Int
  l : List (Int × List Pc)
def laterT (t now : Int) : Int := if t < now ∧ now ≤ 1099511627776 then now else t
def nameT (q : Pc) (x : Int × List Pc) : Bool := match x.2 with | [] => false | y :: _ => sameN y.1 q.1
def addP (st : TSt) (q : Pc) : (Pc × Bool × Int) × List (Int × List Pc) :=
  if (!mayP q || (!wholeP q && decide (q.2.length = 0))) = true then ((zPc, false, 3), st.l)
  else if wholeP q = true then ((if q.1.s = true then outP q q.2 else q, true, 0), st.l)
  else match st.l.findIdx? (nameT q) with
    | none => ((zPc, false, 0), (if st.room ≤ (st.l.length : Int) then st.l.drop 1 else st.l) ++ [(st.t, [q])])
    | some i =>
      let x := st.l.getD i (0, [])
      if x.2.any (dupP q) = true then ((zPc, false, 0), st.l)
      else if x.2.any (badP q) = true then ((zPc, false, 3), st.l.eraseIdx i)
      else if 64 ≤ x.2.length then ((zPc, false, 5), st.l.eraseIdx i)
      else match joinedP (x.2 ++ [q]) with
        | some r => ((r, true, 0), st.l.eraseIdx i)
        | none => ((zPc, false, 0), st.l.set i (x.1, x.2 ++ [q]))
def addR (st : TSt) (now : Int) (q : Pc) : Pc × Bool × Int := (addP { st with t := laterT st.t now } q).1
def addT (st : TSt) (now : Int) (q : Pc) : TSt := { st with t := laterT st.t now, l := (addP { st with t := laterT st.t now } q).2 }
/-! ### what is cut -/
theorem pieces_get (q : Pc) (id : Int) {sz : Nat} (hs : 0 < sz) : ∀ (f at_ i : Nat), q.2.length ≤ at_ + f → (piecesP q id sz f at_)[i]? = if at_ + i * sz < q.2.length then some (pieceP q id sz (at_ + i * sz)) else none
  | 0, at_, i, h => by
    unfold piecesP
    have : 0 ≤ i * sz := Nat.zero_le _
    rw [if_neg (by omega)]; rfl
  | f + 1, at_, i, h => by
    unfold piecesP
    by_cases hl : at_ < q.2.length
    · rw [if_pos hl]
      cases i with
      | zero => simp [hl]
      | succ i =>
        rw [List.getElem?_cons_succ, pieces_get q id hs f (at_ + sz) i (by omega)]
        have e : at_ + sz + i * sz = at_ + (i + 1) * sz := by rw [Nat.succ_mul]; omega
        rw [e]
    · have : 0 ≤ i * sz := Nat.zero_le _
      rw [if_neg hl, if_neg (by omega)]; rfl
/-- how many pieces there are -/
theorem pieces_len (q : Pc) (id : Int) {sz : Nat} (hs : 0 < sz) (i : Nat) : i < (piecesP q id sz q.2.length 0).length ↔ i * sz < q.2.length := by
  have h := pieces_get q id hs q.2.length 0 i (by omega)
  rw [Nat.zero_add] at h
  constructor
  · intro h1
    rw [List.getElem?_eq_getElem h1] at h
    by_cases h2 : i * sz < q.2.length
    · exact h2
    · rw [if_neg h2] at h; cases h
  · intro h1
    rw [if_pos h1] at h
    exact (List.getElem?_eq_some_iff.1 h).1
theorem pieces_at (q : Pc) (id : Int) {sz : Nat} (hs : 0 < sz) {i : Nat} (hi : i * sz < q.2.length) : (piecesP q id sz q.2.length 0)[i]? = some (pieceP q id sz (i * sz)) := by
  rw [pieces_get q id hs q.2.length 0 i (by omega), Nat.zero_add, if_pos hi]
/-! ### lists of different numbers below a bound -/
theorem pig : ∀ (N : Nat) (J : List Nat), J.Nodup → (∀ j ∈ J, j < N) → J.length ≤ N ∧ (J.length = N → ∀ k, k < N → k ∈ J)
  | 0, J, hd, hb => by
    have : J = [] := by
      cases J with
      | nil => rfl
      | cons a r => exact absurd (hb a (by simp)) (by omega)
    subst this
    exact ⟨by simp, fun _ k hk => by omega⟩
  | N + 1, J, hd, hb => by
    by_cases hm : N ∈ J
    · have h1 := pig N (J.erase N) (hd.erase N) (fun j hj => by
        have h2 := hb j (List.mem_of_mem_erase hj)
        have h3 : j ≠ N := fun e => by subst e; exact (hd.mem_erase_iff.1 hj).1 rfl
        omega)
      have hl := List.length_erase_of_mem hm
      have hp : 0 < J.length := List.length_pos_of_mem hm
      refine ⟨by omega, fun hJ k hk => ?_⟩
      by_cases e : k = N
      · subst e; exact hm
      · exact List.mem_of_mem_erase (h1.2 (by omega) k (by omega))
    · have h1 := pig N J hd (fun j hj => by
        have h2 := hb j hj
        have h3 : j ≠ N := fun e => hm (e ▸ hj)
        omega)
      exact ⟨by omega, fun hJ => by omega⟩
theorem pig_all : ∀ (N : Nat) (J : List Nat), (∀ k, k < N → k ∈ J) → N ≤ J.length
  | 0, J, h => Nat.zero_le _
  | N + 1, J, h => by
    have hm := h N (by omega)
    have h1 := pig_all N (J.erase N) (fun k hk => (List.mem_erase_of_ne (by omega)).2 (h k (by omega)))
    have hl := List.length_erase_of_mem hm
    have hp : 0 < J.length := List.length_pos_of_mem hm
    omega
theorem pig_miss {N : Nat} {J : List Nat} (hd : J.Nodup) (hb : ∀ j ∈ J, j < N) (hl : J.length < N) : ∃ m, m < N ∧ m ∉ J := by
  apply Classical.byContradiction
  intro h
  have : ∀ k, k < N → k ∈ J := fun k hk => Classical.byContradiction fun hk2 => h ⟨k, hk, hk2⟩
  have := pig_all N J this
  omega
/-! ### pieces come together -/
/-- a packet that is cut into more than one piece: every piece but the last has sz bytes -/
structure Cutting (q : Pc) (id : Int) (sz N : Nat) : Prop where
  s8 : sz % 8 = 0
  s0 : 0 < sz
  nN : ∀ i, i < N ↔ i * sz < q.2.length
  two : 2 ≤ N
  few : N ≤ 64
  may : mayP q = true
  small : q.2.length ≤ 1500
section
variable {q : Pc} {id : Int} {sz N : Nat}
theorem Cutting.more (h : Cutting q id sz N) {i : Nat} (hi : i < N) : (pieceP q id sz (i * sz)).1.more = decide (i + 1 < N) := by
  show decide (i * sz + sz < q.2.length) = _
  have e : i * sz + sz = (i + 1) * sz := by rw [Nat.succ_mul]
  rw [e]
  exact decide_eq_decide.2 (h.nN (i + 1)).symm
theorem Cutting.len (h : Cutting q id sz N) {i : Nat} (hi : i < N) : (pieceP q id sz (i * sz)).2.length = min sz (q.2.length - i * sz) := by
  show ((q.2.drop (i * sz)).take sz).length = _
  rw [List.length_take, List.length_drop]
theorem Cutting.len_sz (h : Cutting q id sz N) {i : Nat} (hi : i + 1 < N) : (pieceP q id sz (i * sz)).2.length = sz := by
  rw [h.len (by omega)]
  have := (h.nN (i + 1)).1 hi
  rw [Nat.succ_mul] at this
  omega
theorem Cutting.len_pos (h : Cutting q id sz N) {i : Nat} (hi : i < N) : 0 < (pieceP q id sz (i * sz)).2.length := by
  rw [h.len hi]
  have := (h.nN i).1 hi
  have := h.s0
  omega
theorem Cutting.end_le (h : Cutting q id sz N) {i j : Nat} (hij : i < j) (hj : j < N) : endP (pieceP q id sz (i * sz)) ≤ ((j * sz : Nat) : Int) ∧ ((j * sz : Nat) : Int) < endP (pieceP q id sz (j * sz)) := by
  have h1 := h.len_sz (i := i) (by omega)
  have h2 := h.len_pos hj
  have h3 : (i + 1) * sz ≤ j * sz := Nat.mul_le_mul_right _ (by omega)
  rw [Nat.succ_mul] at h3
  unfold endP
  refine ⟨?_, ?_⟩
  · show ((i * sz : Nat) : Int) + _ ≤ _
    rw [h1]; omega
  · show _ < ((j * sz : Nat) : Int) + _
    omega
theorem off_inj (h : Cutting q id sz N) {i j : Nat} (e : i * sz = j * sz) : i = j := Nat.eq_of_mul_eq_mul_right h.s0 e
theorem Cutting.dup (h : Cutting q id sz N) {i j : Nat} (hi : i < N) (hj : j < N) : dupP (pieceP q id sz (i * sz)) (pieceP q id sz (j * sz)) = decide (i = j) := by
  by_cases e : i = j
  · subst e
    simp [dupP]
  · rw [decide_eq_false e]
    unfold dupP
    have : ¬ ((j * sz : Nat) : Int) = ((i * sz : Nat) : Int) := fun h2 => e (off_inj h (by omega))
    rw [show decide ((pieceP q id sz (j * sz)).1.off = (pieceP q id sz (i * sz)).1.off) = false from decide_eq_false this]
    rfl
theorem Cutting.bad (h : Cutting q id sz N) {i j : Nat} (hi : i < N) (hj : j < N) (e : i ≠ j) : badP (pieceP q id sz (i * sz)) (pieceP q id sz (j * sz)) = false := by
  unfold badP
  have oi : (pieceP q id sz (i * sz)).1.off = ((i * sz : Nat) : Int) := rfl
  have oj : (pieceP q id sz (j * sz)).1.off = ((j * sz : Nat) : Int) := rfl
  rw [h.more hi, h.more hj, oi, oj]
  rcases Nat.lt_or_ge i j with hij | hij
  · obtain ⟨a1, a2⟩ := h.end_le hij hj
    rw [decide_eq_true (show i + 1 < N by omega), decide_eq_false (show ¬ ((j * sz : Nat) : Int) < endP (pieceP q id sz (i * sz)) by omega), decide_eq_false (show ¬ endP (pieceP q id sz (i * sz)) > endP (pieceP q id sz (j * sz)) by omega)]
    simp
  · obtain ⟨a1, a2⟩ := h.end_le (show j < i by omega) hi
    rw [decide_eq_true (show j + 1 < N by omega), decide_eq_false (show ¬ ((i * sz : Nat) : Int) < endP (pieceP q id sz (j * sz)) by omega), decide_eq_false (show ¬ endP (pieceP q id sz (j * sz)) > endP (pieceP q id sz (i * sz)) by omega)]
    simp
theorem find_piece (h : Cutting q id sz N) (k : Nat) : ∀ (J : List Nat), (J.map fun j => pieceP q id sz (j * sz)).find? (fun y => decide (y.1.off = ((k * sz : Nat) : Int))) = if k ∈ J then some (pieceP q id sz (k * sz)) else none
  | [] => by simp
  | j :: r => by
    rw [List.map_cons, List.find?_cons]
    have oj : (pieceP q id sz (j * sz)).1.off = ((j * sz : Nat) : Int) := rfl
    by_cases e : j = k
    · subst e
      rw [oj, decide_eq_true rfl]
      simp
    · have ne : ¬ ((j * sz : Nat) : Int) = ((k * sz : Nat) : Int) := fun h2 => e (off_inj h (by omega))
      rw [oj, decide_eq_false ne]
      simp only
      rw [find_piece h k r]
      have : k ∈ j :: r ↔ k ∈ r := by simp [Ne.symm e]
      by_cases hk : k ∈ r
      · rw [if_pos hk, if_pos (this.2 hk)]
      · rw [if_neg hk, if_neg (fun h2 => hk (this.1 h2))]
theorem stuck (l : List Pc) (load : List Int) (first : Pc) (h : l.find? (fun q => decide (q.1.off = (load.length : Int))) = none) : ∀ f, joinF l f load first = none
  | 0 => rfl
  | f + 1 => by unfold joinF; rw [h]; exact stuck l load first h f
theorem take_step (h : Cutting q id sz N) {k : Nat} (hk : k + 1 < N) : q.2.take (k * sz) ++ (pieceP q id sz (k * sz)).2 = q.2.take ((k + 1) * sz) := by
  show q.2.take (k * sz) ++ (q.2.drop (k * sz)).take sz = _
  rw [Nat.succ_mul, List.take_add]
theorem take_last (h : Cutting q id sz N) {k : Nat} (hk : k + 1 = N) : q.2.take (k * sz) ++ (pieceP q id sz (k * sz)).2 = q.2 := by
  show q.2.take (k * sz) ++ (q.2.drop (k * sz)).take sz = _
  have h1 : ¬ (k + 1) * sz < q.2.length := fun h2 => by have := (h.nN (k + 1)).2 h2; omega
  rw [Nat.succ_mul] at h1
  rw [List.take_of_length_le (l := q.2.drop (k * sz)) (by rw [List.length_drop]; omega), List.take_append_drop]
theorem take_len (h : Cutting q id sz N) {k : Nat} (hk : k < N) : (q.2.take (k * sz)).length = k * sz := by
  have := (h.nN k).1 hk
  rw [List.length_take]; omega
/-- all pieces are there -/
theorem join_all (h : Cutting q id sz N) (J : List Nat) (hJ : ∀ k, k < N → k ∈ J) : ∀ (f k : Nat) (first : Pc), k < N → N ≤ k + f → (k = 0 ∨ first = pieceP q id sz 0) →
    joinF (J.map fun j => pieceP q id sz (j * sz)) f (q.2.take (k * sz)) first = some (outP (pieceP q id sz 0) q.2)
  | 0, k, first, hk, hf, h0 => by omega
  | f + 1, k, first, hk, hf, h0 => by
    unfold joinF
    rw [take_len h hk, find_piece h k J, if_pos (hJ k hk)]
    simp only
    have ok : (pieceP q id sz (k * sz)).1.off = ((k * sz : Nat) : Int) := rfl
    have hfi : (if (pieceP q id sz (k * sz)).1.off = 0 then pieceP q id sz (k * sz) else first) = pieceP q id sz 0 := by
      by_cases e : k = 0
      · subst e; simp [pieceP]
      · have hs := h.s0
        have : 0 < k * sz := Nat.mul_pos (by omega) hs
        rw [ok, if_neg (by omega)]
        rcases h0 with h0 | h0
        · omega
        · exact h0
    rw [hfi, h.more hk]
    by_cases hl : k + 1 < N
    · rw [decide_eq_true hl, if_pos rfl, take_step h hl]
      exact join_all h J hJ f (k + 1) _ hl (by omega) (.inr rfl)
    · rw [decide_eq_false hl, if_neg (by decide), take_last h (by omega)]
/-- one piece is not there -/
theorem join_miss (h : Cutting q id sz N) (J : List Nat) {m : Nat} (hm : m < N) (hJ : m ∉ J) : ∀ (f k : Nat) (first : Pc), k ≤ m →
    joinF (J.map fun j => pieceP q id sz (j * sz)) f (q.2.take (k * sz)) first = none
  | 0, k, first, hk => rfl
  | f + 1, k, first, hk => by
    have hkN : k < N := by omega
    by_cases hin : k ∈ J
    · unfold joinF
      rw [take_len h hkN, find_piece h k J, if_pos hin]
      simp only
      have hne : k ≠ m := fun e => hJ (e ▸ hin)
      rw [h.more hkN, decide_eq_true (show k + 1 < N by omega), if_pos rfl, take_step h (by omega)]
      exact join_miss h J hm hJ f (k + 1) _ (by omega)
    · exact stuck _ _ _ (by rw [take_len h hkN, find_piece h k J, if_neg hin]) _
theorem joined_pieces (h : Cutting q id sz N) {J : List Nat} (hd : J.Nodup) (hb : ∀ j ∈ J, j < N) : joinedP (J.map fun j => pieceP q id sz (j * sz)) = if J.length = N then some (outP (pieceP q id sz 0) q.2) else none := by
  have hp := pig N J hd hb
  have h2 := h.two
  unfold joinedP
  rw [List.length_map]
  by_cases hl : J.length = N
  · rw [if_pos hl]
    have := join_all h J (hp.2 hl) J.length 0 zPc (by omega) (by omega) (.inl rfl)
    rw [Nat.zero_mul, List.take_zero] at this
    exact this
  · rw [if_neg hl]
    obtain ⟨m, hm, hmj⟩ := pig_miss hd hb (by omega)
    have := join_miss h J hm hmj J.length 0 zPc (Nat.zero_le _)
    rw [Nat.zero_mul, List.take_zero] at this
    exact this
theorem Cutting.mayc (h : Cutting q id sz N) {i : Nat} (hi : i < N) : mayP (pieceP q id sz (i * sz)) = true := by
  have hm := h.may
  have hsm := h.small
  have hl := h.len hi
  have h8 := h.s8
  have hn := (h.nN i).1 hi
  have ho8 : ((i * sz : Nat) : Int) % 8 = 0 := by
    have : (i * sz) % 8 = 0 := by rw [Nat.mul_mod, h8, Nat.mul_zero, Nat.zero_mod]
    omega
  have hmo := h.more hi
  have hl8 : (pieceP q id sz (i * sz)).1.more = true → (pieceP q id sz (i * sz)).2.length % 8 = 0 := fun h1 => by
    rw [hmo] at h1
    rw [h.len_sz (of_decide_eq_true h1)]; exact h8
  unfold mayP at hm ⊢
  have es : (pieceP q id sz (i * sz)).1.s = q.1.s := rfl
  rw [es]
  cases hs : q.1.s
  · rw [hs] at hm
    rw [if_neg (by decide)] at hm ⊢
    unfold pkC.mayB at hm ⊢
    simp only [Bool.and_eq_true, Bool.or_eq_true, decide_eq_true_eq, Bool.not_eq_true'] at hm ⊢
    obtain ⟨⟨⟨⟨⟨⟨⟨⟨⟨⟨g1, g2⟩, g3⟩, g4⟩, g5⟩, g6⟩, g7⟩, g8⟩, g9⟩, g10⟩, g11⟩ := hm
    refine ⟨⟨⟨⟨⟨⟨⟨⟨⟨⟨g1, g2⟩, g3⟩, g4⟩, ?_⟩, ?_⟩, ?_⟩, ?_⟩, ?_⟩, ?_⟩, ?_⟩
    · show (if q.1.s = true then id else q.1.id) ≤ _
      rw [hs, if_neg (by decide)]; exact g5
    · show (0 : Int) ≤ ((i * sz : Nat) : Int); omega
    · exact ho8
    · rw [hl]; omega
    · show ((i * sz : Nat) : Int) ≤ _
      rw [hl]; omega
    · cases hmm : (pieceP q id sz (i * sz)).1.more
      · exact .inl rfl
      · exact .inr (hl8 hmm)
    · exact .inl rfl
  · rw [hs] at hm
    rw [if_pos rfl] at hm ⊢
    unfold sxC.mayS at hm ⊢
    simp only [Bool.and_eq_true, Bool.or_eq_true, decide_eq_true_eq, Bool.not_eq_true'] at hm ⊢
    obtain ⟨g1, g2, g3, g4, g5, g6, g7, g8⟩ := hm
    refine ⟨g1, g2, g3, ?_, ho8, ?_, ?_, .inl rfl⟩
    · show (0 : Int) ≤ ((i * sz : Nat) : Int); omega
    · show ((i * sz : Nat) : Int) ≤ _
      rw [hl]; omega
    · cases hmm : (pieceP q id sz (i * sz)).1.more
      · exact .inl rfl
      · exact .inr (hl8 hmm)
theorem Cutting.notwhole (h : Cutting q id sz N) {i : Nat} (hi : i < N) : wholeP (pieceP q id sz (i * sz)) = false := by
  have h2 := h.two
  unfold wholeP
  rw [h.more hi]
  by_cases e : i = 0
  · subst e
    rw [decide_eq_true (show 0 + 1 < N by omega)]; simp
  · have : 0 < i * sz := Nat.mul_pos (by omega) h.s0
    rw [show decide ((pieceP q id sz (i * sz)).1.off = 0) = false from decide_eq_false (show ¬ ((i * sz : Nat) : Int) = 0 by omega)]
    rfl
end
end Go.Proofs.Ytcnnpfjommiafaa.fgC
