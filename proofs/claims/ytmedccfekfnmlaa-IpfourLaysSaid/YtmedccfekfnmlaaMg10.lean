/-
  2 texts of a proof, joined.
-/
import Derived.Test.YtmedccfekfnmlaaMg3
import Derived.Test.YtmedccfekfnmlaaMg9

/-
  Packets as values: their cells, and how one that came in is opened.
-/
namespace Go.Proofs.Ytmedccfekfnmlaa.pkC
open Go.ChangeShapes Go.WideShapes Go.ChangeAt Go.RowKit
open Go.Proofs.Ytmedccfekfnmlaa.memC Go.Proofs.Ytmedccfekfnmlaa.genC Go.Proofs.Ytmedccfekfnmlaa.butC Go.Proofs.Ytmedccfekfnmlaa.freeC Go.Proofs.Ytmedccfekfnmlaa.adC
set_option linter.unusedVariables false
/-- a packet, but for its load -/
structure Pkt where
  s : Bool
  a : List Int
  t : Bool
  b : List Int
  proto : Int
  hops : Int
  id : Int
  whole : Bool
  more : Bool
  off : Int
structure Pkt.Ok (p : Pkt) : Prop where
  la : p.a.length = 16
  lb : p.b.length = 16
  ya : ∀ x ∈ p.a, Byte x
  yb : ∀ x ∈ p.b, Byte x
  proto : Byte p.proto
  hops : Byte p.hops
  id : 0 ≤ p.id ∧ p.id ≤ 4294967295
  off : -9223372036854775808 ≤ p.off ∧ p.off ≤ 9223372036854775807
def adrC (s : Bool) (b : List Int) : List Value := .bool s :: b.map (Value.int .u8)
theorem adrC_arr (s : Bool) (b : List Int) : (adrC s b).toArray = adrV s b := rfl
theorem adrC_len {s : Bool} {b : List Int} (h : b.length = 16) : (adrC s b).length = 17 := by simp [adrC, h]
def pktT (p : Pkt) (A : Option Addr) (n c : Nat) : List Value := [.int .u8 p.proto, .int .u8 p.hops, .int .u32 p.id, .bool p.whole, .bool p.more, .int .i64 p.off, .slice A n c]
def pktL (p : Pkt) (A : Option Addr) (n c : Nat) : List Value := adrC p.s p.a ++ (adrC p.t p.b ++ pktT p A n c)
def pktV (p : Pkt) (A : Option Addr) (n c : Nat) : Array Value := (pktL p A n c).toArray
/-- what is known of a packet's cells -/
structure PkC (C : Array Value) (p : Pkt) (A : Option Addr) (n c : Nat) : Prop where
  size : C.size = 41
  src : ∀ j v, (adrC p.s p.a)[j]? = some v → C[0 + j]? = some v
  dst : ∀ j v, (adrC p.t p.b)[j]? = some v → C[17 + j]? = some v
  proto : C[34]? = some (.int .u8 p.proto)
  hops : C[35]? = some (.int .u8 p.hops)
  id : C[36]? = some (.int .u32 p.id)
  whole : C[37]? = some (.bool p.whole)
  more : C[38]? = some (.bool p.more)
  off : C[39]? = some (.int .i64 p.off)
  load : C[40]? = some (.slice A n c)
theorem pktL_src {p : Pkt} (h : p.a.length = 16) (A : Option Addr) (n c : Nat) (j : Nat) (v : Value) (hv : (adrC p.s p.a)[j]? = some v) : (pktL p A n c)[j]? = some v := by
  have hj : j < (adrC p.s p.a).length := (List.getElem?_eq_some_iff.1 hv).1
  unfold pktL
  rw [List.getElem?_append_left hj]; exact hv
theorem pktL_dst {p : Pkt} (h : p.a.length = 16) (A : Option Addr) (n c : Nat) (j : Nat) (v : Value) (hv : (adrC p.t p.b)[j]? = some v) : (pktL p A n c)[17 + j]? = some v := by
  have hj : j < (adrC p.t p.b).length := (List.getElem?_eq_some_iff.1 hv).1
  have hl := adrC_len (s := p.s) h
  unfold pktL
  rw [List.getElem?_append_right (by omega), hl, Nat.add_sub_cancel_left, List.getElem?_append_left hj]; exact hv
theorem pktL_tail {p : Pkt} (h : p.a.length = 16) (h' : p.b.length = 16) (A : Option Addr) (n c : Nat) (k : Nat) : (pktL p A n c)[34 + k]? = (pktT p A n c)[k]? := by
  have hl := adrC_len (s := p.s) h
  have hl' := adrC_len (s := p.t) h'
  unfold pktL
  rw [List.getElem?_append_right (by omega), List.getElem?_append_right (by omega), hl, hl']
  congr 1; omega
theorem pktL_len {p : Pkt} (h : p.a.length = 16) (h' : p.b.length = 16) (A : Option Addr) (n c : Nat) : (pktL p A n c).length = 41 := by
  unfold pktL
  rw [List.length_append, List.length_append, adrC_len h, adrC_len h']
  rfl
theorem pkC {p : Pkt} (h : p.Ok) (A : Option Addr) (n c : Nat) : PkC (pktV p A n c) p A n c := by
  have t := pktL_tail h.la h.lb A n c
  unfold pktV
  exact { size := by simpa using pktL_len h.la h.lb A n c
          src := fun j v hv => by simpa using pktL_src h.la A n c j v hv
          dst := fun j v hv => by simpa using pktL_dst h.la A n c j v hv
          proto := by simpa [pktT] using t 0
          hops := by simpa [pktT] using t 1
          id := by simpa [pktT] using t 2
          whole := by simpa [pktT] using t 3
          more := by simpa [pktT] using t 4
          off := by simpa [pktT] using t 5
          load := by simpa [pktT] using t 6 }
theorem pkt_info0 : (Try.prog.info? 28).map (·.size) = some 41 := by kernel_rfl
theorem PkC.info {C : Array Value} {p : Pkt} {A : Option Addr} {n c : Nat} (h : PkC C p A n c) : (Try.prog.info? 28).map (·.size) = some C.size := by rw [pkt_info0, h.size]
theorem adrC_info {s : Bool} {b : List Int} (h : b.length = 16) : (Try.prog.info? 24).map (·.size) = some (adrC s b).length := by rw [adrC_len h]; exact addr_info
theorem pkt_one (p : Pkt) (A : Option Addr) (n c : Nat) : (pktV p A n c).all (·.oneCell') = true := by
  rw [Array.all_eq_true_iff_forall_mem]
  intro v hv
  simp [pktV, pktL, adrC, pktT] at hv
  rcases hv with rfl | ⟨z, _, rfl⟩ | rfl | ⟨z, _, rfl⟩ | rfl | rfl | rfl | rfl | rfl | rfl | rfl <;> rfl
/-- the packet of no call -/
def zPkt : Pkt := ⟨false, zs 16, false, zs 16, 0, 0, 0, false, false, 0⟩
theorem zPkt_ok : zPkt.Ok := ⟨zs_len 16, zs_len 16, fun x hx => by rw [List.eq_of_mem_replicate hx]; unfold Byte; omega, fun x hx => by rw [List.eq_of_mem_replicate hx]; unfold Byte; omega, by unfold Byte zPkt; decide, by unfold Byte zPkt; decide, by unfold zPkt; decide, by unfold zPkt; decide⟩
theorem zPkt_info : (Try.prog.info? 28).map (·.zero) = some (some (.agg (pktV zPkt none 0 0))) := by kernel_rfl
theorem zeroPkt (w : World) : (zeroValue 28).run Try.prog w = .ok (.agg (pktV zPkt none 0 0)) w := by
  obtain ⟨i, hi, hz⟩ := Option.map_eq_some_iff.1 zPkt_info
  simp [zeroValue, typeInfo, hi, hz]
theorem wpList_load_partG {P : Program} {ops : Array Oper} {rest : List Oper} {o : Oper} {a : Act} {w : World} {Q : Exit → Act → World → Prop} (hw : Region.wanted o (yielded ops a.tmps) = true) (ty : TypeId) (x : Operand) (ho : o.op = .load ty x)
    (g q : Nat) (hx : a.eval x = .pointer (some ⟨g, q, none⟩)) (l : List Value) (d : TypeDesc) (hc : ∀ j v, l[j]? = some v → w.cell? ⟨g, q + j, none⟩ = some v)
    (hu : P.underlying ty = some d) (hd : (match d with | .struct _ | .array _ _ => true | _ => false) = true) (hi : (P.info? ty).map (·.size) = some l.length)
    (h : wpList P ops Q rest (a.put o.dst (.agg l.toArray)) w) : wpList P ops Q (o :: rest) a w := by
  refine wpList_step fun K hK => ?_
  rw [if_pos hw]
  unfold Oper.wp execOp
  simp only [ho, hx, Instr.loadAt, Instr.sureAddr, Sem.run_bind, Sem.run_pure, Result.andThen_ok, partC.run_load_part w g q ty l d hc hu hd hi]
  exact hK _ _ h
/-- a block's cells, read -/
theorem PkC.cell {C : Array Value} {w : World} {g : Nat} {T : TypeId} (R : w.heap[g]? = some (.cells C T (0, 0))) {k : Nat} {v : Value} (h : C[k]? = some v) : w.cell? ⟨g, k, none⟩ = some v := by
  rw [cell_of_row w g k C T (0, 0) R]; exact h
theorem PkC.part {C : Array Value} {w : World} {g : Nat} {T : TypeId} (R : w.heap[g]? = some (.cells C T (0, 0))) {l : List Value} {q : Nat} (h : ∀ j v, l[j]? = some v → C[q + j]? = some v) : ∀ j v, l[j]? = some v → w.cell? ⟨g, q + j, none⟩ = some v :=
  fun j v hv => PkC.cell R (h j v hv)
/-- whether two packets, and their loads, are the same -/
def sameB (p : Pkt) (xs : List Int) (q : Pkt) (ys : List Int) : Bool :=
  decide (p.s = q.s ∧ p.a = q.a) && (decide (p.t = q.t ∧ p.b = q.b) && (decide (p.proto = q.proto) && (decide (p.hops = q.hops) && (decide (p.id = q.id) && (decide (p.whole = q.whole) && (decide (p.more = q.more) && (decide (p.off = q.off) && decide (xs = ys))))))))
theorem sameB_iff {p q : Pkt} {xs ys : List Int} : sameB p xs q ys = true ↔ p = q ∧ xs = ys := by
  obtain ⟨s, a, t, b, pr, ho, id, wh, mo, of⟩ := p
  obtain ⟨s', a', t', b', pr', ho', id', wh', mo', of'⟩ := q
  simp [sameB]
  constructor
  · rintro ⟨⟨h1, h2⟩, ⟨h3, h4⟩, h5, h6, h7, h8, h9, h10, h11⟩
    exact ⟨⟨h1, h2, h3, h4, h5, h6, h7, h8, h9, h10⟩, h11⟩
  · rintro ⟨⟨h1, h2, h3, h4, h5, h6, h7, h8, h9, h10⟩, h11⟩
    exact ⟨⟨h1, h2⟩, ⟨h3, h4⟩, h5, h6, h7, h8, h9, h10, h11⟩
/-- whether a packet may be, by the length of its load -/
def mayB (p : Pkt) (n : Nat) : Bool :=
  !p.s && !p.t && mayL p.s p.a && mayL p.t p.b && decide (p.id ≤ 65535) && decide (0 ≤ p.off) && decide (p.off % 8 = 0) && decide ((n : Int) ≤ 65515) && decide (p.off ≤ 65515 - (n : Int)) && (!p.more || decide (n % 8 = 0)) && (!p.whole || (!p.more && decide (p.off = 0)))
section
variable {P : Program} {w : World} {r : Reach} {b0 : Nat} {t : TypeId}
theorem cell_int {k : IntKind} {ti : TypeId} {v : Value} (hi : P.underlying ti = some (.int k)) (h : Cell.okWide P w r b0 ti v) : ∃ z, v = .int k z ∧ k.min ≤ z ∧ z ≤ k.max := by
  unfold Cell.okWide at h
  rw [hi] at h
  unfold Cell.ok at h
  rw [hi] at h
  cases v <;> simp at h
  obtain ⟨rfl, h1, h2⟩ := h
  exact ⟨_, rfl, h1, h2⟩
/-- 17 cells that hold an address -/
theorem adr_cells {l : List Value} {q : Nat} (hs : ∃ s, l[q]? = some (.bool s)) (kb : ∀ i, i < 16 → ∃ z, l[q + 1 + i]? = some (.int .u8 z) ∧ Byte z) :
    ∃ s bs, bs.length = 16 ∧ (∀ x ∈ bs, Byte x) ∧ (l.drop q).take 17 = adrC s bs := by
  obtain ⟨s, hs⟩ := hs
  refine ⟨s, (List.range 16).map fun i => match l[q + 1 + i]? with | some (.int _ z) => z | _ => 0, by simp, fun x hx => ?_, ?_⟩
  · obtain ⟨i, hi, rfl⟩ := List.mem_map.1 hx
    obtain ⟨z, hz, hw⟩ := kb i (List.mem_range.1 hi)
    rw [hz]; exact hw
  · apply List.ext_getElem?
    intro j
    by_cases hj : j < 17
    · rw [List.getElem?_take_of_lt hj, List.getElem?_drop]
      unfold adrC
      cases j with
      | zero => simpa using hs
      | succ j =>
        obtain ⟨z, hz, _⟩ := kb j (by omega)
        rw [List.getElem?_cons_succ, List.getElem?_map, List.getElem?_map, List.getElem?_range (by omega)]
        have e : q + (j + 1) = q + 1 + j := by omega
        rw [e, hz]
        simp [hz]
    · rw [List.getElem?_eq_none (by rw [List.length_take]; omega), List.getElem?_eq_none (by simp [adrC]; omega)]
end
/-- a packet that came in -/
theorem open_packet {H : Type} {enc : TypeId × Value → H} {P : Program} {w : World} {base : Nat} {spare : Nat → Bool} {held : Bool} {r : Reach} {b0 : Nat} {t tb ti t32 tn ts : TypeId} {fs : Array Field} {f8 : Field} {v : Value} {d : DataW H} {ps : List MemPlace}
    (ht : P.underlying t = some (.struct fs)) (hc : P.cellsOf t = 41) (h8 : fs[8]? = some f8) (e8 : f8.type = ts) (o8 : f8.offset = 40) (c8 : P.cellsOf ts = 1)
    (hts : P.cellTypes P.depth t = some ((tb :: List.replicate 16 ti) ++ ((tb :: List.replicate 16 ti) ++ [ti, ti, t32, tb, tb, tn, ts])))
    (hb : P.underlying tb = some .bool) (hi : P.underlying ti = some (.int .u8)) (h32 : P.underlying t32 = some (.int .u32)) (hn : P.underlying tn = some (.int .i64)) (hs : P.underlying ts = some (.slice ti)) (ci : P.cellsOf ti = 1)
    (hsp : ∀ b, spare b = true) (hval : Value.okWide P w r b0 t v) (hd : DataW.Trod enc P w base spare held t v d ps) :
    ∃ (p : Pkt) (A : Option Addr) (n c : Nat) (zs : List Int), v = .agg (pktV p A n c) ∧ p.Ok ∧ n ≤ c ∧ c ≤ 9223372036854775807 ∧ Nums .u8 w w.heap.size A n zs ∧ ∀ x ∈ zs, Byte x := by
  obtain ⟨fuel, hf⟩ := hd
  obtain ⟨cs, rfl, hsz, ts', hts', _, hcell⟩ : ∃ cs, v = .agg cs ∧ cs.size = P.cellsOf t ∧ Row.okWide P w r b0 t cs := by
    simpa [Value.okWide, ht] using hval
  obtain ⟨l⟩ := cs
  rw [hc] at hsz
  have hl : l.length = 41 := by simpa using hsz
  rw [hts] at hts'
  obtain rfl := Option.some.inj hts'
  have key : ∀ i, i < 41 → ∃ v u, l[i]? = some v ∧ ((tb :: List.replicate 16 ti) ++ ((tb :: List.replicate 16 ti) ++ [ti, ti, t32, tb, tb, tn, ts]))[i]? = some u ∧ Cell.okWide P w r b0 u v := fun i hi36 => by
    have e : l[i]? = some (l[i]'(by omega)) := List.getElem?_eq_getElem _
    obtain ⟨u, h1, h2⟩ := hcell i (l[i]'(by omega)) (by rw [← e]; simp)
    refine ⟨_, u, e, ?_, h2⟩
    have : i % 41 = i := Nat.mod_eq_of_lt hi36
    simpa [this] using h1
  have kb : ∀ q, (q = 0 ∨ q = 17) → (∃ s, l[q]? = some (.bool s)) ∧ ∀ i, i < 16 → ∃ z, l[q + 1 + i]? = some (.int .u8 z) ∧ Byte z := fun q hq => by
    constructor
    · obtain ⟨v, u, h1, h2, h3⟩ := key q (by omega)
      have : u = tb := by
        rcases hq with rfl | rfl
        · exact (Option.some.inj h2).symm
        · exact (Option.some.inj h2).symm
      subst this
      obtain ⟨s, rfl⟩ := cell_bool hb h3
      exact ⟨s, h1⟩
    · intro i hi'
      obtain ⟨v, u, h1, h2, h3⟩ := key (q + 1 + i) (by omega)
      have : u = ti := by
        rcases hq with rfl | rfl
        · rw [List.getElem?_append_left (by simp; omega), show 0 + 1 + i = i + 1 by omega, List.getElem?_cons_succ, List.getElem?_replicate, if_pos hi'] at h2
          exact (Option.some.inj h2).symm
        · rw [List.getElem?_append_right (by simp; omega), List.getElem?_append_left (by simp; omega)] at h2
          have e : 17 + 1 + i - (tb :: List.replicate 16 ti).length = i + 1 := by simp; omega
          rw [e, List.getElem?_cons_succ, List.getElem?_replicate, if_pos hi'] at h2
          exact (Option.some.inj h2).symm
      subst this
      obtain ⟨z, rfl, hz⟩ := cell_u8 hi h3
      exact ⟨z, h1, hz⟩
  obtain ⟨s, a, la, ya, ea⟩ := adr_cells (kb 0 (.inl rfl)).1 (kb 0 (.inl rfl)).2
  obtain ⟨s', b, lb, yb, eb⟩ := adr_cells (kb 17 (.inr rfl)).1 (kb 17 (.inr rfl)).2
  obtain ⟨x34, h34, y34⟩ : ∃ z, l[34]? = some (.int .u8 z) ∧ Byte z := by
    obtain ⟨v, u, h1, h2, h3⟩ := key 34 (by omega)
    have : u = ti := (Option.some.inj h2).symm
    subst this
    obtain ⟨z, rfl, hz⟩ := cell_u8 hi h3
    exact ⟨z, h1, hz⟩
  obtain ⟨x35, h35, y35⟩ : ∃ z, l[35]? = some (.int .u8 z) ∧ Byte z := by
    obtain ⟨v, u, h1, h2, h3⟩ := key 35 (by omega)
    have : u = ti := (Option.some.inj h2).symm
    subst this
    obtain ⟨z, rfl, hz⟩ := cell_u8 hi h3
    exact ⟨z, h1, hz⟩
  obtain ⟨x36, h36, y36⟩ : ∃ z, l[36]? = some (.int .u32 z) ∧ IntKind.u32.min ≤ z ∧ z ≤ IntKind.u32.max := by
    obtain ⟨v, u, h1, h2, h3⟩ := key 36 (by omega)
    have : u = t32 := (Option.some.inj h2).symm
    subst this
    obtain ⟨z, rfl, hz⟩ := cell_int h32 h3
    exact ⟨z, h1, hz⟩
  obtain ⟨x37, h37⟩ : ∃ z, l[37]? = some (.bool z) := by
    obtain ⟨v, u, h1, h2, h3⟩ := key 37 (by omega)
    have : u = tb := (Option.some.inj h2).symm
    subst this
    obtain ⟨z, rfl⟩ := cell_bool hb h3
    exact ⟨z, h1⟩
  obtain ⟨x38, h38⟩ : ∃ z, l[38]? = some (.bool z) := by
    obtain ⟨v, u, h1, h2, h3⟩ := key 38 (by omega)
    have : u = tb := (Option.some.inj h2).symm
    subst this
    obtain ⟨z, rfl⟩ := cell_bool hb h3
    exact ⟨z, h1⟩
  obtain ⟨x39, h39, y39⟩ : ∃ z, l[39]? = some (.int .i64 z) ∧ IntKind.i64.min ≤ z ∧ z ≤ IntKind.i64.max := by
    obtain ⟨v, u, h1, h2, h3⟩ := key 39 (by omega)
    have : u = tn := (Option.some.inj h2).symm
    subst this
    obtain ⟨z, rfl, hz⟩ := cell_int hn h3
    exact ⟨z, h1, hz⟩
  obtain ⟨ys, n8, _, _, _, hyl, hg⟩ := DataW.trod_struct ht hf
  have g8 := hg 8 f8 h8
  rw [e8, o8, c8] at g8
  have e40 : ((Value.agg { toList := l }).cells.toList.drop 40).take 1 = [l[40]'(by omega)] := by
    have : (Value.agg { toList := l }).cells.toList = l := by simp [Value.cells]
    rw [this, List.drop_eq_getElem_cons (by omega)]
    rfl
  rw [e40] at g8
  have h40 : l[40]? = some (l[40]'(by omega)) := List.getElem?_eq_getElem _
  have fin : ∃ A n c zs, l[40]? = some (.slice A n c) ∧ n ≤ c ∧ c ≤ 9223372036854775807 ∧ Nums .u8 w w.heap.size A n zs ∧ ∀ x ∈ zs, (Lit.int .u8 x).wf = true := by
    cases hy8 : ys[8]? with
    | none =>
      have h1 := (Array.getElem?_eq_some_iff.1 h8).1
      have h2 := List.getElem?_eq_none_iff.1 hy8
      omega
    | some y8 =>
      rw [hy8] at g8
      rcases open_ints hs hi ci g8 with ⟨hcs, _⟩ | ⟨x, ln, cp, zs, hcs, _, hl', hm, hz, _, hcell', hwz⟩
      · have e1 := (List.cons.inj hcs).1
        rw [h40, e1]
        exact ⟨none, 0, 0, [], rfl, Nat.le_refl _, Nat.zero_le _, Nums.none_ 0, by simp⟩
      · have e1 := (List.cons.inj hcs).1
        rw [h40, e1]
        unfold maxLen at hm
        rw [hsp, if_pos rfl] at hz
        refine ⟨some x, ln, cp, zs.take ln, rfl, hl', by omega, ⟨by simp; omega, fun hn => ?_⟩, fun n hn => hwz n (List.mem_of_mem_take hn)⟩
        obtain ⟨b, off, spot⟩ := x
        have hc := hcell' 0 (by omega)
        have hspot : spot = none := by simpa [Addr.add] using World.cell?_spot hc
        subst hspot
        refine ⟨b, off, rfl, ?_, fun i hi => ?_⟩
        · have := World.block_lt_of_cell? _ _ hc
          rw [memC.add_plain] at this
          exact this
        · have h1 := hcell' i (by omega)
          have h2 : (zs.take ln).getD i 0 = zs.getD i 0 := by simp [List.getD_eq_getElem?_getD, hi]
          rw [memC.add_plain] at h1
          rw [h2]; exact h1
  obtain ⟨A, n, c, zs, hA, hnc, hcm, hN, hwf⟩ := fin
  refine ⟨⟨s, a, s', b, x34, x35, x36, x37, x38, x39⟩, A, n, c, zs, ?_, ⟨la, lb, ya, yb, y34, y35, by simpa [IntKind.min, IntKind.max, IntKind.signed, IntKind.bits] using y36, by simpa [IntKind.min, IntKind.max, IntKind.signed, IntKind.bits] using y39⟩, hnc, hcm, hN, fun x hx => ?_⟩
  · unfold pktV
    congr 2
    unfold pktL
    rw [← ea, ← eb]
    apply List.ext_getElem?
    intro j
    have l1 : ((l.drop 0).take 17).length = 17 := by rw [List.length_take, List.length_drop]; omega
    have l2 : ((l.drop 17).take 17).length = 17 := by rw [List.length_take, List.length_drop]; omega
    by_cases hj : j < 17
    · rw [List.getElem?_append_left (by omega), List.getElem?_take_of_lt hj, List.getElem?_drop, Nat.zero_add]
    · rw [List.getElem?_append_right (by omega), l1]
      by_cases hj2 : j < 34
      · rw [List.getElem?_append_left (by omega), List.getElem?_take_of_lt (by omega), List.getElem?_drop]
        congr 1; omega
      · rw [List.getElem?_append_right (by omega), l2]
        obtain ⟨k, rfl⟩ : ∃ k, j = 34 + k := ⟨j - 34, by omega⟩
        have ek : 34 + k - 17 - 17 = k := by omega
        rw [ek]
        match k with
        | 0 => exact h34
        | 1 => exact h35
        | 2 => exact h36
        | 3 => exact h37
        | 4 => exact h38
        | 5 => exact h39
        | 6 => exact hA
        | k + 7 => rw [List.getElem?_eq_none (by omega)]; rfl
  · have := hwf x hx
    simpa [Lit.wf, Byte, IntKind.min, IntKind.max, IntKind.signed, IntKind.bits] using this
end Go.Proofs.Ytmedccfekfnmlaa.pkC

/-
  Regions that draw their order, in which some operations write (stores, appends), each waiting for the one before: a chain. All others only make memory, or read.
-/
namespace Go.Proofs.Ytmedccfekfnmlaa.freeC
open Go.ChangeShapes Go.WideShapes Go.ChangeAt Go.RowKit
set_option linter.unusedVariables false
section
variable {P : Program} {L : List Oper} {Q : Exit → Act → World → Prop}
/-- what is asked of an operation: of one that is no part of the chain C, that it makes memory alone; of the chain's p-th, that it leads from R p to R (p + 1) -/
def StepC (P : Program) (L : List Oper) (Q : Exit → Act → World → Prop) (tab : List (Option Nat)) (a : Act) (B : Nat) (C : List Nat) (G : World → Prop) (V : Nat → Value → World → Prop) (R : Nat → (Nat → Value) → World → Prop) (i : Nat) (o : Oper) : Prop :=
  ∀ (m : Nat → Bool) us w, B ≤ w.heap.size → G w → (∀ j, j ∉ C → m j = true → V j (us j) w) → doneB o m = true →
    (i ∉ C → if Region.wanted o (yielded L.toArray (frame tab a us).tmps) then o.wp P (frame tab a us) w (fun a' w' => ∃ v, a' = (frame tab a us).put o.dst v ∧ Below w.heap.size w w' ∧ V i v w') Q else V i undef w) ∧
    (∀ p, C[p]? = some i → R p us w → if Region.wanted o (yielded L.toArray (frame tab a us).tmps) then o.wp P (frame tab a us) w (fun a' w' => ∃ v, a' = (frame tab a us).put o.dst v ∧ Below B w w' ∧ R (p + 1) (upd us i v) w') Q else R (p + 1) (upd us i undef) w)
def links (L : List Oper) : List Nat → Bool
  | x :: y :: r => (match L[y]? with | some o => o.after.any fun e => Region.binds .any e && (e.on == x) | none => false) && links L (y :: r)
  | _ => true
theorem links_at {L : List Oper} : ∀ {C : List Nat}, links L C = true → ∀ p x y o, C[p]? = some x → C[p + 1]? = some y → L[y]? = some o → ∀ m, doneB o m = true → m x = true
  | [], _, p, x, y, o, h, _, _, _, _ => by simp at h
  | [z], _, p, x, y, o, _, h, _, _, _ => by simp at h
  | z :: z' :: r, hl, 0, x, y, o, h1, h2, ho, m, hd => by
    obtain rfl : z = x := by simpa using h1
    obtain rfl : z' = y := by simpa using h2
    simp only [links, Bool.and_eq_true, ho] at hl
    obtain ⟨e, he, h2⟩ := Array.any_eq_true'.1 hl.1
    simp only [Bool.and_eq_true, beq_iff_eq] at h2
    have h3 := Array.all_eq_true'.1 hd e he
    rw [h2.1, h2.2] at h3
    simpa using h3
  | z :: z' :: r, hl, p + 1, x, y, o, h1, h2, ho, m, hd => by
    simp only [links, Bool.and_eq_true] at hl
    exact links_at hl.2 p x y o (by simpa using h1) (by simpa using h2) ho m hd
theorem nodup_at {C : List Nat} (hnd : C.Nodup) {p q x : Nat} (hp : C[p]? = some x) (hq : C[q]? = some x) : p = q := by
  obtain ⟨hp1, hp2⟩ := List.getElem?_eq_some_iff.1 hp
  obtain ⟨hq1, hq2⟩ := List.getElem?_eq_some_iff.1 hq
  have h := List.pairwise_iff_getElem.1 hnd
  rcases Nat.lt_trichotomy p q with h1 | h1 | h1
  · exact absurd (hp2.trans hq2.symm) (h p q hp1 hq1 h1)
  · exact h1
  · exact absurd (hq2.trans hp2.symm) (h q p hq1 hp1 h1)
theorem wp_region_chain {id : Nat} {a : Act} {w : World} (hm : P.follows .mixedOrders = true) (tab : List (Option Nat)) (hb : backE L = true) (ht : slots tab L = true) (hl : tab.length = a.tmps.size)
    (us0 : Nat → Value) (ha : frame tab a us0 = a) (B : Nat) (C : List Nat) (hC : links L C = true) (hnd : C.Nodup) (hin : ∀ x ∈ C, x < L.length)
    (G : World → Prop) (V : Nat → Value → World → Prop) (R : Nat → (Nat → Value) → World → Prop) (hB : B ≤ w.heap.size) (hG : G w.drew) (h0 : R 0 us0 w.drew)
    (hkG : ∀ w w', B ≤ w.heap.size → Below B w w' → G w → G w') (hkV : ∀ i v w w', B ≤ w.heap.size → Below B w w' → V i v w → V i v w')
    (hkR : ∀ k us us' w w', (∀ x ∈ C, us' x = us x) → B ≤ w.heap.size → Below w.heap.size w w' → R k us w → R k us' w')
    (hstep : AllFrom (StepC P L Q tab a B C G V R) 0 L)
    (hend : ∀ us w, B ≤ w.heap.size → G w → (∀ i, i < L.length → i ∉ C → V i (us i) w) → R C.length us w → Q .normal (frame tab a us) w) : (Code.region id L.toArray true).wp P Q a w := by
  refine wp_region_free hm tab hb ht hl us0 ha (fun m us w => B ≤ w.heap.size ∧ G w ∧ (∀ j, j ∉ C → m j = true → V j (us j) w) ∧ ∃ k, k ≤ C.length ∧ (∀ j x, C[j]? = some x → (m x = true ↔ j < k)) ∧ R k us w)
    ⟨(by simpa using hB), hG, (fun j _ h => by cases h), 0, Nat.zero_le _, (fun j x _ => by simp), h0⟩ ?_ ?_
  · intro i o ho m us w' ⟨hb', hg, hv, k, hk, hcm, hr⟩ hmi hd
    have hs := all_from L 0 hstep i o ho m us w' hb' hg hv hd
    rw [Nat.zero_add] at hs
    by_cases hi : i ∈ C
    · obtain ⟨p, hp⟩ := List.getElem?_of_mem hi
      have hkp : k = p := by
        have h1 : ¬ p < k := fun h => by rw [(hcm p i hp).2 h] at hmi; cases hmi
        rcases Nat.eq_zero_or_pos p with h2 | h2
        · omega
        · obtain ⟨q, rfl⟩ : ∃ q, p = q + 1 := ⟨p - 1, by omega⟩
          have hq : q < C.length := by have := (List.getElem?_eq_some_iff.1 hp).1; omega
          have e := List.getElem?_eq_getElem hq
          have := (hcm q _ e).1 (links_at hC q _ i o e hp ho m hd)
          omega
      subst hkp
      have hs2 := hs.2 k hp hr
      have hset : ∀ v w'', Below B w' w'' → R (k + 1) (upd us i v) w'' → B ≤ w''.heap.size ∧ G w'' ∧ (∀ j, j ∉ C → upd m i true j = true → V j (upd us i v j) w'') ∧ ∃ k, k ≤ C.length ∧ (∀ j x, C[j]? = some x → (upd m i true x = true ↔ j < k)) ∧ R k (upd us i v) w'' := fun v w'' hb2 hr2 => by
        refine ⟨Nat.le_trans hb' hb2.size, hkG _ _ hb' hb2 hg, fun j hj hm' => ?_, k + 1, ?_, fun j x hx => ?_, hr2⟩
        · have hji : j ≠ i := fun e => hj (e ▸ hi)
          rw [upd_other _ _ hji] at hm' ⊢
          exact hkV _ _ _ _ hb' hb2 (hv j hj hm')
        · have := (List.getElem?_eq_some_iff.1 hp).1; omega
        · by_cases hx2 : x = i
          · subst hx2
            have hjk : j = k := nodup_at hnd hx hp
            rw [upd_same]; simp [hjk]
          · rw [upd_other _ _ hx2, hcm j x hx]
            have hjk : j ≠ k := fun e => by rw [e, hp] at hx; exact hx2 (Option.some.inj hx).symm
            omega
      split
      · rename_i hw
        rw [if_pos hw] at hs2
        refine Oper.wp_mono (fun a2 w2 h2 => ?_) hs2
        obtain ⟨v, ha, hb2, hr2⟩ := h2
        exact ⟨v, ha, hset v w2 hb2 hr2⟩
      · rename_i hw
        rw [if_neg hw] at hs2
        exact hset undef w' (Below.refl _ _) hs2
    · have hs1 := hs.1 hi
      have hset : ∀ v w'', Below w'.heap.size w' w'' → V i v w'' → B ≤ w''.heap.size ∧ G w'' ∧ (∀ j, j ∉ C → upd m i true j = true → V j (upd us i v j) w'') ∧ ∃ k, k ≤ C.length ∧ (∀ j x, C[j]? = some x → (upd m i true x = true ↔ j < k)) ∧ R k (upd us i v) w'' := fun v w'' hb2 hv2 => by
        have hb3 := hb2.mono hb'
        refine ⟨Nat.le_trans hb' hb2.size, hkG _ _ hb' hb3 hg, fun j hj hm' => ?_, k, hk, fun j x hx => ?_, hkR k us (upd us i v) w' w'' (fun x hx => ?_) hb' hb2 hr⟩
        · by_cases hji : j = i
          · subst hji; rw [upd_same]; exact hv2
          · rw [upd_other _ _ hji] at hm' ⊢
            exact hkV _ _ _ _ hb' hb3 (hv j hj hm')
        · have hxi : x ≠ i := fun e => hi (e ▸ List.mem_of_getElem? hx)
          rw [upd_other _ _ hxi]; exact hcm j x hx
        · have hxi : x ≠ i := fun e => hi (e ▸ hx)
          rw [upd_other _ _ hxi]
      split
      · rename_i hw
        rw [if_pos hw] at hs1
        refine Oper.wp_mono (fun a2 w2 h2 => ?_) hs1
        obtain ⟨v, ha, hb2, hv2⟩ := h2
        exact ⟨v, ha, hset v w2 hb2 hv2⟩
      · rename_i hw
        rw [if_neg hw] at hs1
        exact hset undef w' (Below.refl _ _) hs1
  · intro m us w' hm' ⟨hb', hg, hv, k, hk, hcm, hr⟩
    have hkl : k = C.length := by
      rcases Nat.lt_or_ge k C.length with h | h
      · have e := List.getElem?_eq_getElem h
        have := (hcm k _ e).1 (hm' _ (hin _ (List.getElem_mem h)))
        omega
      · omega
    subst hkl
    exact hend us w' hb' hg (fun i hi hc => hv i hc (hm' i hi)) hr
variable {o : Oper} {a : Act} {tab : List (Option Nat)} {B : Nat} {C : List Nat} {G : World → Prop} {V : Nat → Value → World → Prop} {R : Nat → (Nat → Value) → World → Prop} {i : Nat}
/-- an operation that only makes memory -/
theorem stepC_val (need : List Nat) (hn : needs o need = true) (hc : (need.all fun j => !C.contains j) = true) (hi : C.contains i = false) (hg : o.guard = none)
    (h : ∀ us w, B ≤ w.heap.size → G w → (∀ j, j ∈ need → V j (us j) w) → o.wp P (frame tab a us) w (fun a' w' => ∃ v, a' = (frame tab a us).put o.dst v ∧ Below w.heap.size w w' ∧ V i v w') Q) : StepC P L Q tab a B C G V R i o := by
  intro m us w hB hG hV hd
  have hiC : i ∉ C := fun e => by rw [List.contains_iff_mem.2 e] at hi; cases hi
  refine ⟨fun _ => ?_, fun p hp => absurd (List.mem_of_getElem? hp) hiC⟩
  rw [if_pos (show Region.wanted o (yielded L.toArray (frame tab a us).tmps) = true by simp [Region.wanted, hg])]
  exact h us w hB hG fun j hj => hV j (fun e => by have h1 := List.all_eq_true.1 hc j hj; rw [List.contains_iff_mem.2 e] at h1; cases h1) (need_ok hn hd j hj)
/-- .. behind a guard that says b, as is known -/
theorem stepC_guard (need : List Nat) (hn : needs o need = true) (hc : (need.all fun j => !C.contains j) = true) (hi : C.contains i = false) {j t : Nat} {b : Bool} (hg : o.guard = some (j, b)) (hj : j ∈ need) (hL : (L[j]?).bind (·.dst) = some t) (hl : tab.length = a.tmps.size) (ht : (tab[t]?).join = some j)
    (hv : ∀ v w, V j v w → v = .bool b)
    (h : ∀ us w, B ≤ w.heap.size → G w → (∀ j, j ∈ need → V j (us j) w) → o.wp P (frame tab a us) w (fun a' w' => ∃ v, a' = (frame tab a us).put o.dst v ∧ Below w.heap.size w w' ∧ V i v w') Q) : StepC P L Q tab a B C G V R i o := by
  intro m us w hB hG hV hd
  have hiC : i ∉ C := fun e => by rw [List.contains_iff_mem.2 e] at hi; cases hi
  have hV2 : ∀ j, j ∈ need → V j (us j) w := fun j hj => hV j (fun e => by have h1 := List.all_eq_true.1 hc j hj; rw [List.contains_iff_mem.2 e] at h1; cases h1) (need_ok hn hd j hj)
  refine ⟨fun _ => ?_, fun p hp => absurd (List.mem_of_getElem? hp) hiC⟩
  have hy := yield_at (L := L) (us := us) hl hL ht (hv _ _ (hV2 j hj))
  rw [if_pos (show Region.wanted o (yielded L.toArray (frame tab a us).tmps) = true by simp [Region.wanted, hg, hy])]
  exact h us w hB hG hV2
/-- .. that is not wanted -/
theorem stepC_skip (need : List Nat) (hn : needs o need = true) (hc : (need.all fun j => !C.contains j) = true) (hi : C.contains i = false) {j t : Nat} {b : Bool} (hg : o.guard = some (j, b)) (hj : j ∈ need) (hL : (L[j]?).bind (·.dst) = some t) (hl : tab.length = a.tmps.size) (ht : (tab[t]?).join = some j)
    (hv : ∀ v w, V j v w → v = .bool !b) (h : ∀ w, V i undef w) : StepC P L Q tab a B C G V R i o := by
  intro m us w hB hG hV hd
  have hiC : i ∉ C := fun e => by rw [List.contains_iff_mem.2 e] at hi; cases hi
  have hV2 : ∀ j, j ∈ need → V j (us j) w := fun j hj => hV j (fun e => by have h1 := List.all_eq_true.1 hc j hj; rw [List.contains_iff_mem.2 e] at h1; cases h1) (need_ok hn hd j hj)
  refine ⟨fun _ => ?_, fun p hp => absurd (List.mem_of_getElem? hp) hiC⟩
  have hy := yield_at (L := L) (us := us) hl hL ht (hv _ _ (hV2 j hj))
  rw [if_neg (by simp [Region.wanted, hg, hy])]
  exact h w
/-- the chain's p-th -/
theorem stepC_chain (p : Nat) (hp : C[p]? = some i) (hnd : C.Nodup) (need : List Nat) (hn : needs o need = true) (hc : (need.all fun j => !C.contains j) = true) (hg : o.guard = none)
    (h : ∀ us w, B ≤ w.heap.size → G w → (∀ j, j ∈ need → V j (us j) w) → R p us w → o.wp P (frame tab a us) w (fun a' w' => ∃ v, a' = (frame tab a us).put o.dst v ∧ Below B w w' ∧ R (p + 1) (upd us i v) w') Q) : StepC P L Q tab a B C G V R i o := by
  intro m us w hB hG hV hd
  refine ⟨fun hi => absurd (List.mem_of_getElem? hp) hi, fun q hq hr => ?_⟩
  have hqp : q = p := nodup_at hnd hq hp
  subst hqp
  rw [if_pos (show Region.wanted o (yielded L.toArray (frame tab a us).tmps) = true by simp [Region.wanted, hg])]
  exact h us w hB hG (fun j hj => hV j (fun e => by have h1 := List.all_eq_true.1 hc j hj; rw [List.contains_iff_mem.2 e] at h1; cases h1) (need_ok hn hd j hj)) hr
/-- .. behind a guard that says b, as is known -/
theorem stepC_chainG (p : Nat) (hp : C[p]? = some i) (hnd : C.Nodup) (need : List Nat) (hn : needs o need = true) (hc : (need.all fun j => !C.contains j) = true) {j t : Nat} {b : Bool} (hg : o.guard = some (j, b)) (hj : j ∈ need) (hL : (L[j]?).bind (·.dst) = some t) (hl : tab.length = a.tmps.size) (ht : (tab[t]?).join = some j)
    (hv : ∀ v w, V j v w → v = .bool b)
    (h : ∀ us w, B ≤ w.heap.size → G w → (∀ j, j ∈ need → V j (us j) w) → R p us w → o.wp P (frame tab a us) w (fun a' w' => ∃ v, a' = (frame tab a us).put o.dst v ∧ Below B w w' ∧ R (p + 1) (upd us i v) w') Q) : StepC P L Q tab a B C G V R i o := by
  intro m us w hB hG hV hd
  have hV2 : ∀ j, j ∈ need → V j (us j) w := fun j hj => hV j (fun e => by have h1 := List.all_eq_true.1 hc j hj; rw [List.contains_iff_mem.2 e] at h1; cases h1) (need_ok hn hd j hj)
  refine ⟨fun hi => absurd (List.mem_of_getElem? hp) hi, fun q hq hr => ?_⟩
  have hqp : q = p := nodup_at hnd hq hp
  subst hqp
  have hy := yield_at (L := L) (us := us) hl hL ht (hv _ _ (hV2 j hj))
  rw [if_pos (show Region.wanted o (yielded L.toArray (frame tab a us).tmps) = true by simp [Region.wanted, hg, hy])]
  exact h us w hB hG hV2 hr
variable {w w' : World} {K : Act → World → Prop}
/-- an operation that answers a value at once, in such a region -/
theorem val_C {fr : Act} {v : Value} (hr : (execOp fr.eval o).run P w = .ok (.value v) w') (hb : Below w.heap.size w w') (hV : V i v w') :
    o.wp P fr w (fun a' w' => ∃ v, a' = fr.put o.dst v ∧ Below w.heap.size w w' ∧ V i v w') Q := free_val hr ⟨v, rfl, hb, hV⟩
theorem load_C {fr : Act} (ty : TypeId) (s : Tmp) (ho : o.op = .load ty (.tmp s)) (g : Nat) (hx : fr.tmps[s]?.getD undef = .pointer (some ⟨g, 0, none⟩)) (t : TypeId) (cs : Array Value) (f : Nat × Nat) (d : TypeDesc) (hg : w.heap[g]? = some (.cells cs t f))
    (hu : P.underlying ty = some d) (hd : (match d with | .struct _ | .array _ _ => true | _ => false) = true) (hi : (P.info? ty).map (·.size) = some cs.size) (hV : V i (.agg cs) w) :
    o.wp P fr w (fun a' w' => ∃ v, a' = fr.put o.dst v ∧ Below w.heap.size w w' ∧ V i v w') Q :=
  wp_load_row ty (.tmp s) ho g (by simpa only [Act.eval, Array.getD_eq_getD_getElem?] using hx) t cs f d hg hu hd hi ⟨_, rfl, Below.refl _ _, hV⟩
theorem call_C {fr : Act} {f : FuncId} {args : Array Value} (hr : (execOp fr.eval o).run P w = .ok (.enter f args) w) (h : Calls P f args w fun e w' => ∃ v, e = .returned v ∧ Below w.heap.size w w' ∧ V i v w') :
    o.wp P fr w (fun a' w' => ∃ v, a' = fr.put o.dst v ∧ Below w.heap.size w w' ∧ V i v w') Q := free_call hr (h.mono fun e w' ⟨v, he, h2, h3⟩ => ⟨v, he, v, rfl, h2, h3⟩)
end
end Go.Proofs.Ytmedccfekfnmlaa.freeC
