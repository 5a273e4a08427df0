/-
  4 texts of a proof, joined.
-/
import Derived.Test.YtcnnpfjommiafaaMg30
import Derived.OpenShut
import Derived.Deep.Slices

/-
  Steps in a slice as an argument: opened by what is read of them alone.
-/
namespace Go.Proofs.Ytcnnpfjommiafaa.fgC
open Go.ChangeShapes Go.WideShapes Go.ChangeAt Go.RowKit
open Go.Proofs.Ytcnnpfjommiafaa.memC Go.Proofs.Ytcnnpfjommiafaa.genC Go.Proofs.Ytcnnpfjommiafaa.butC Go.Proofs.Ytcnnpfjommiafaa.freeC Go.Proofs.Ytcnnpfjommiafaa.adC
open Go.Proofs.Ytcnnpfjommiafaa.pkC (Pkt pktL pktV pktT adrC)
set_option linter.unusedVariables false
set_option linter.constructorNameAsVariable false
section
variable {H : Type} {enc : TypeId × Value → H} {w : World} {base : Nat} {spare : Nat → Bool} {held : Bool} {fuel : Nat} {cs : List Value} {x : DataW H × List MemPlace}
theorem is_addr : Try.prog.underlying 24 = some (.struct (Try.prog.fieldsOf 24)) := by simp [Program.fieldsOf, Try.underlying24]
theorem adr_fs : (Try.prog.fieldsOf 24).toList.map (fun f => (f.type, f.offset)) = [(4, 0), (22, 1)] := by kernel_rfl
theorem pkt_fs : (Try.prog.fieldsOf 28).toList.map (fun f => (f.type, f.offset)) = [(24, 0), (24, 17), (5, 34), (5, 35), (25, 36), (4, 37), (4, 38), (3, 39), (26, 40)] := by kernel_rfl
theorem stp_fs : (Try.prog.fieldsOf 53).toList.map (fun f => (f.type, f.offset)) = [(4, 0), (2, 1), (28, 2)] := by kernel_rfl
theorem cells1 : Try.prog.cellsOf 24 = 17 ∧ Try.prog.cellsOf 22 = 16 ∧ Try.prog.cellsOf 5 = 1 ∧ Try.prog.cellsOf 25 = 1 ∧ Try.prog.cellsOf 3 = 1 ∧ Try.prog.cellsOf 26 = 1 := ⟨by kernel_rfl, by kernel_rfl, by kernel_rfl, by kernel_rfl, by kernel_rfl, by kernel_rfl⟩
/-- a field's reading -/
theorem field_read {t : TypeId} {fs : Array Field} {L : List (TypeId × Nat)} (ht : Try.prog.underlying t = some (.struct fs)) (hL : fs.toList.map (fun f => (f.type, f.offset)) = L) (h : DataW.trod enc Try.prog w base spare held fuel t cs = some x) :
    cs.length = Try.prog.cellsOf t ∧ ∃ n : Nat, ∀ (i : Nat) (u : TypeId) (o : Nat), L[i]? = some (u, o) → ∃ y, DataW.trod enc Try.prog w base spare held n u ((cs.drop o).take (Try.prog.cellsOf u)) = some y := by
  obtain ⟨ys, n, -, -, hl, hyl, hg⟩ := DataW.trod_struct ht h
  refine ⟨hl, n, fun i u o hi => ?_⟩
  rw [← hL, List.getElem?_map] at hi
  cases hf : fs.toList[i]? with
  | none => rw [hf] at hi; cases hi
  | some f =>
    rw [hf] at hi
    injection hi with hi
    injection hi with h1 h2
    have hf2 : fs[i]? = some f := by rw [← Array.getElem?_toList]; exact hf
    have := hg i f hf2
    rw [h1, h2] at this
    have hlt : i < ys.length := by rw [hyl]; exact (Array.getElem?_eq_some_iff.1 hf2).1
    exact ⟨ys[i], this.trans (List.getElem?_eq_getElem hlt)⟩
theorem split_at (l : List Value) (a k : Nat) : l.drop a = (l.drop a).take k ++ l.drop (a + k) := by
  rw [← List.drop_drop]; exact (List.take_append_drop k _).symm
set_option maxRecDepth 100000 in
theorem adr_trod (h : DataW.trod enc Try.prog w base spare held fuel 24 cs = some x) : ∃ s b, cs = adrC s b ∧ b.length = 16 ∧ ∀ y ∈ b, Byte y := by
  obtain ⟨hl, n, hg⟩ := field_read is_addr adr_fs h
  obtain ⟨c1, c2, c3, c4, c5, c6⟩ := cells1
  obtain ⟨y0, g0⟩ := hg 0 _ _ rfl
  obtain ⟨y1, g1⟩ := hg 1 _ _ rfl
  rw [cells_of.2.2.1] at g0
  rw [c2] at g1
  rw [c1] at hl
  obtain ⟨s, q0, -⟩ := DataW.trod_bool Try.underlying4 g0
  obtain ⟨xs, m, -, -, -, hxl, he⟩ := DataW.trod_array Try.underlying22 g1
  rw [c3] at he
  obtain ⟨l, hL⟩ : ∃ l, l = (cs.drop 1).take 16 := ⟨_, rfl⟩
  rw [← hL] at he
  have hll : l.length = 16 := by rw [hL, List.length_take, List.length_drop]; omega
  have key : ∀ i, i < 16 → ∃ z, l[i]? = some (.int .u8 z) ∧ Byte z := fun i hi => by
    have h1 := he i hi
    rw [List.getElem?_eq_getElem (show i < xs.length by omega)] at h1
    obtain ⟨z, h2, -, h3⟩ := DataW.trod_int Try.underlying5 h1
    have h4 : ((l.drop (i * 1)).take 1)[0]? = some (.int .u8 z) := by rw [h2]; rfl
    rw [List.getElem?_take_of_lt (by decide), List.getElem?_drop, Nat.mul_one, Nat.add_zero] at h4
    exact ⟨z, h4, bounds_u8 h3⟩
  refine ⟨s, l.map (fun v => match v with | .int _ z => z | _ => 0), ?_, by rw [List.length_map, hll], fun y hy => ?_⟩
  · have e : cs = (cs.drop 0).take 1 ++ ((cs.drop 1).take 16) := by
      have h1 := split_at cs 0 1
      have h2 := split_at cs 1 16
      rw [show cs.drop (1 + 16) = [] from List.drop_eq_nil_of_le (by omega), List.append_nil] at h2
      rw [List.drop_zero, Nat.zero_add, h2] at h1
      exact h1
    rw [q0, ← hL] at e
    rw [e]
    unfold adrC
    rw [List.singleton_append]
    congr 1
    refine List.ext_getElem? fun i => ?_
    rw [List.getElem?_map, List.getElem?_map]
    by_cases hi : i < 16
    · obtain ⟨z, hz, -⟩ := key i hi
      rw [hz]; rfl
    · rw [List.getElem?_eq_none (by omega)]; rfl
  · obtain ⟨v, hv, rfl⟩ := List.mem_map.1 hy
    obtain ⟨i, hi⟩ := List.mem_iff_getElem?.1 hv
    have hi16 : i < 16 := by have := (List.getElem?_eq_some_iff.1 hi).1; omega
    obtain ⟨z, hz, hb⟩ := key i hi16
    rw [hi] at hz
    injection hz with hz
    subst hz
    exact hb
set_option maxRecDepth 100000 in
theorem pk_trod (hsp : ∀ b, spare b = true) (h : DataW.trod enc Try.prog w base spare held fuel 28 cs = some x) : ∃ e : Pe, cs = e.cells ∧ e.Ok ∧ Ld w w.heap.size e := by
  obtain ⟨hl, n, hg⟩ := field_read pkC.is_pkt pkt_fs h
  obtain ⟨c1, c2, c3, c4, c5, c6⟩ := cells1
  have cb := cells_of.2.2.1
  rw [cells_of.2.1] at hl
  obtain ⟨y0, g0⟩ := hg 0 _ _ rfl
  obtain ⟨y1, g1⟩ := hg 1 _ _ rfl
  obtain ⟨y2, g2⟩ := hg 2 _ _ rfl
  obtain ⟨y3, g3⟩ := hg 3 _ _ rfl
  obtain ⟨y4, g4⟩ := hg 4 _ _ rfl
  obtain ⟨y5, g5⟩ := hg 5 _ _ rfl
  obtain ⟨y6, g6⟩ := hg 6 _ _ rfl
  obtain ⟨y7, g7⟩ := hg 7 _ _ rfl
  obtain ⟨y8, g8⟩ := hg 8 _ _ rfl
  rw [c1] at g0 g1
  rw [c3] at g2 g3
  rw [c4] at g4
  rw [cb] at g5 g6
  rw [c5] at g7
  rw [c6] at g8
  obtain ⟨s, a, q0, la, ya⟩ := adr_trod g0
  obtain ⟨t, b, q1, lb, yb⟩ := adr_trod g1
  obtain ⟨z2, q2, -, w2⟩ := DataW.trod_int Try.underlying5 g2
  obtain ⟨z3, q3, -, w3⟩ := DataW.trod_int Try.underlying5 g3
  obtain ⟨z4, q4, -, w4⟩ := DataW.trod_int Try.underlying25 g4
  obtain ⟨z5, q5, -⟩ := DataW.trod_bool Try.underlying4 g5
  obtain ⟨z6, q6, -⟩ := DataW.trod_bool Try.underlying4 g6
  obtain ⟨z7, q7, -, w7⟩ := DataW.trod_int Try.underlying3 g7
  obtain ⟨A, m, c, zs, q8, hmc, hcm, hN, hy⟩ : ∃ A m c zs, (cs.drop 40).take 1 = [.slice A m c] ∧ m ≤ c ∧ c ≤ 9223372036854775807 ∧ Nums .u8 w w.heap.size A m zs ∧ ∀ x ∈ zs, Byte x := by
    rcases open_ints Try.underlying26 Try.underlying5 c3 g8 with ⟨hcs, -⟩ | ⟨x, ln, cp, zs, hcs, -, hl', hm, hz, -, hcell', hwz⟩
    · exact ⟨none, 0, 0, [], hcs, Nat.le_refl _, Nat.zero_le _, Nums.none_ 0, by simp⟩
    · unfold maxLen at hm
      rw [hsp, if_pos rfl] at hz
      refine ⟨some x, ln, cp, zs.take ln, hcs, hl', by omega, ⟨by simp; omega, fun hn => ?_⟩, fun n hn => bounds_u8 (hwz n (List.mem_of_mem_take hn))⟩
      obtain ⟨b, off, spot⟩ := x
      have hc := hcell' 0 (by omega)
      have hspot : spot = none := by simpa [Addr.add] using World.cell?_spot hc
      subst hspot
      refine ⟨b, off, rfl, ?_, fun i hi => ?_⟩
      · have := World.block_lt_of_cell? _ _ hc
        rw [memC.add_plain] at this
        exact this
      · have h1 := hcell' i (by omega)
        have h2 : (zs.take ln).getD i 0 = zs.getD i 0 := by simp [List.getD_eq_getElem?_getD, hi]
        rw [memC.add_plain] at h1
        rw [h2]; exact h1
  refine ⟨⟨⟨s, a, t, b, z2, z3, z4, z5, z6, z7⟩, A, m, c, zs⟩, ?_, ⟨⟨la, lb, ya, yb, bounds_u8 w2, bounds_u8 w3, bounds_u32 w4, bounds_i64 w7⟩, hy, hmc, hcm⟩, hN⟩
  have e : cs = (cs.drop 0).take 17 ++ ((cs.drop 17).take 17 ++ ((cs.drop 34).take 1 ++ ((cs.drop 35).take 1 ++ ((cs.drop 36).take 1 ++ ((cs.drop 37).take 1 ++ ((cs.drop 38).take 1 ++ ((cs.drop 39).take 1 ++ ((cs.drop 40).take 1 ++ cs.drop 41)))))))) :=
    (split_at cs 0 17).trans (congrArg (_ ++ ·) ((split_at cs 17 17).trans (congrArg (_ ++ ·) ((split_at cs 34 1).trans (congrArg (_ ++ ·) ((split_at cs 35 1).trans (congrArg (_ ++ ·) ((split_at cs 36 1).trans (congrArg (_ ++ ·) ((split_at cs 37 1).trans (congrArg (_ ++ ·) ((split_at cs 38 1).trans (congrArg (_ ++ ·) ((split_at cs 39 1).trans (congrArg (_ ++ ·) (split_at cs 40 1))))))))))))))))
  rw [q0, q1, q2, q3, q4, q5, q6, q7, q8, show cs.drop 41 = [] from List.drop_eq_nil_of_le (by omega)] at e
  rw [e]
  rfl
set_option maxRecDepth 100000 in
theorem step_trod (hsp : ∀ b, spare b = true) (h : DataW.trod enc Try.prog w base spare held fuel 53 cs = some x) : ∃ s : Se, cs = s.cells ∧ s.Ok ∧ Ld w w.heap.size s.e := by
  obtain ⟨hl, n, hg⟩ := field_read is_step stp_fs h
  obtain ⟨d1, d2, d3, d4⟩ := cells_of
  rw [d1] at hl
  obtain ⟨y0, g0⟩ := hg 0 _ _ rfl
  obtain ⟨y1, g1⟩ := hg 1 _ _ rfl
  obtain ⟨y2, g2⟩ := hg 2 _ _ rfl
  rw [d3] at g0
  rw [d4] at g1
  rw [d2] at g2
  obtain ⟨ob, q0, -⟩ := DataW.trod_bool Try.underlying4 g0
  obtain ⟨lt, q1, -, wf⟩ := DataW.trod_int Try.underlying2 g1
  obtain ⟨e, q2, ok, hld⟩ := pk_trod hsp g2
  refine ⟨⟨ob, lt, e⟩, ?_, ⟨bounds_i64 wf, ok⟩, hld⟩
  have e9 : cs = (cs.drop 0).take 1 ++ ((cs.drop 1).take 1 ++ ((cs.drop 2).take 41 ++ cs.drop 43)) := (split_at cs 0 1).trans (congrArg (_ ++ ·) ((split_at cs 1 1).trans (congrArg (_ ++ ·) (split_at cs 2 41))))
  rw [q0, q1, q2, show cs.drop 43 = [] from List.drop_eq_nil_of_le (by omega), List.append_nil] at e9
  rw [e9]
  rfl
end
set_option maxRecDepth 100000 in
theorem open_steps {H : Type} {enc : TypeId × Value → H} {w : World} {base : Nat} {spare : Nat → Bool} {held : Bool} {r : Reach} {b0 : Nat} {v : Value} {d : DataW H} {ps : List MemPlace} (hsp : ∀ b, spare b = true)
    (hval : Value.okWide Try.prog w r b0 49 v) (hd : DataW.Trod enc Try.prog w base spare held 49 v d ps) : ∃ A n c ss, v = .slice A n c ∧ n ≤ c ∧ c ≤ 9223372036854775807 ∧ SksE w w.heap.size A n ss := by
  obtain ⟨a, len, cap, rfl⟩ := okWide_slice Try.underlying49 hval
  obtain ⟨fuel, hf⟩ := hd
  rcases Go.Deep.open_slice Try.underlying49 hf with ⟨hcs, -⟩ | ⟨a2, l2, c2, m, n, D, Pl, hcs, hb, hl, hm, hmm, -, hx⟩
  · simp [Value.cells] at hcs
    obtain ⟨rfl, rfl, rfl⟩ := hcs
    exact ⟨none, 0, 0, [], rfl, Nat.le_refl _, Nat.zero_le _, ⟨⟨rfl, fun h => absurd h (Nat.lt_irrefl 0)⟩, by simp, by simp⟩⟩
  · simp [Value.cells] at hcs
    obtain ⟨rfl, rfl, rfl⟩ := hcs
    rw [hsp, if_pos rfl] at hmm
    rw [cells_of.1] at hx
    unfold maxLen at hm
    obtain ⟨f, hfx⟩ : ∃ f : Nat → Se, ∀ i, i < len → (f i).Ok ∧ Ld w w.heap.size (f i).e ∧ ∀ j v, (f i).cells[j]? = some v → w.cell? ((a2.add (i * 43)).add j) = some v := by
      have : ∀ i, ∃ s : Se, i < len → s.Ok ∧ Ld w w.heap.size s.e ∧ ∀ j v, s.cells[j]? = some v → w.cell? ((a2.add (i * 43)).add j) = some v := fun i => by
        by_cases hi : i < len
        · obtain ⟨cs', h1, h2⟩ := hx i (by omega)
          obtain ⟨-, h4, h5⟩ := World.cells?_some h1
          obtain ⟨s, rfl, h6, h7⟩ := step_trod hsp h2
          refine ⟨s, fun _ => ⟨h6, h7, fun j v hv => ?_⟩⟩
          rw [h5 j (by rw [← h4]; exact (List.getElem?_eq_some_iff.1 hv).1)]
          exact hv
        · exact ⟨⟨false, 0, ⟨zPkt, none, 0, 0, []⟩⟩, fun h => absurd h hi⟩
      exact ⟨fun i => Classical.choose (this i), fun i => Classical.choose_spec (this i)⟩
    refine ⟨some a2, len, cap, (List.range len).map f, rfl, hl, by omega, ⟨⟨by simp, fun h0 => ?_⟩, fun s hs => ?_, fun s hs => ?_⟩⟩
    · obtain ⟨b, off, spot⟩ := a2
      have hc0 := (hfx 0 h0).2.2 0 _ rfl
      have hspot : spot = none := by simpa [Addr.add] using World.cell?_spot hc0
      subst hspot
      refine ⟨b, off, rfl, ?_, fun i s hi j v hv => ?_⟩
      · have := World.block_lt_of_cell? _ _ hc0
        rw [memC.add_plain, memC.add_plain] at this
        exact this
      · have hil : i < len := by have := (List.getElem?_eq_some_iff.1 hi).1; simpa using this
        rw [List.getElem?_map, List.getElem?_range hil] at hi
        injection hi with hi
        subst hi
        have := (hfx i hil).2.2 j v hv
        rw [memC.add_plain, memC.add_plain] at this
        exact this
    · obtain ⟨i, hi, rfl⟩ := List.mem_map.1 hs
      exact (hfx i (List.mem_range.1 hi)).2.1
    · obtain ⟨i, hi, rfl⟩ := List.mem_map.1 hs
      exact (hfx i (List.mem_range.1 hi)).1
end Go.Proofs.Ytcnnpfjommiafaa.fgC

/-
  FragOwn over numbers: what comes out of a row of steps was put in.
-/
namespace Go.Proofs.Ytcnnpfjommiafaa.fgC
open Go.Proofs.Ytcnnpfjommiafaa.pkC (Pkt)
set_option linter.unusedVariables false
/-- whether a byte that came out, at its place, stands in a piece -/
def fitB (k : Nat) (c : Int) (r : Pc) (id : Int) (x : Pc) : Bool :=
  decide (0 ≤ (k : Int) - x.1.off) && (decide ((k : Int) - x.1.off < (x.2.length : Int)) && (decide (x.2.getD ((k : Int) - x.1.off).toNat 0 = c) && (decide (x.1.s = r.1.s ∧ x.1.a = r.1.a) && (decide (x.1.t = r.1.t ∧ x.1.b = r.1.b) && (decide (x.1.proto = r.1.proto) && decide (x.1.id = id))))))
theorem own_fit {L : List Pc} {id : Int} {r : Pc} (h : OwnB L id r) {k : Nat} (hk : k < r.2.length) {l : List Pc} (hl : ∀ x ∈ L, x ∈ l) : l.any (fitB k (r.2.getD k 0) r id) = true := by
  obtain ⟨x, hx, j, h1, h2, h3, h4, h5, h6, h7, h8, h9⟩ := h k hk
  refine List.any_eq_true.2 ⟨x, hl x hx, ?_⟩
  have e : (k : Int) - x.1.off = (j : Int) := by omega
  unfold fitB
  rw [e]
  simp only [Bool.and_eq_true, decide_eq_true_eq, Int.toNat_natCast]
  exact ⟨by omega, by omega, h3, ⟨h4, h5⟩, ⟨h6, h7⟩, h8, h9⟩
/-- the table after some steps, all at the time 0 -/
def ownSt (st : TSt) (l : List Pc) : TSt := l.foldl (fun s y => addT s 0 y) st
theorem ownSt_snoc (st : TSt) (l : List Pc) (y : Pc) : ownSt st (l ++ [y]) = addT (ownSt st l) 0 y := by unfold ownSt; rw [List.foldl_append]; rfl
theorem addT_own {st : TSt} {L : List Pc} (h : FromL L st.l) (now : Int) (y : Pc) : FromL (y :: L) (addT st now y).l ∧ ((addR st now y).2.1 = true → OwnB (y :: L) y.1.id (addR st now y).1) :=
  own_add (st := { st with t := laterT st.t now }) h y
theorem ownSt_from {room : Int} : ∀ (l : List Pc), FromL l.reverse (ownSt ⟨room, 0, []⟩ l).l := by
  have : ∀ (l : List Pc) (st : TSt) (L : List Pc), FromL L st.l → FromL (l.reverse ++ L) (ownSt st l).l := by
    intro l
    induction l with
    | nil => intro st L h; exact h
    | cons y r ih =>
      intro st L h
      have := ih (addT st 0 y) (y :: L) (addT_own h 0 y).1
      rw [List.reverse_cons, List.append_assoc]
      exact this
  intro l
  have h := this l ⟨room, 0, []⟩ [] ⟨fun x hx => (by cases hx), fun x hx => (by cases hx)⟩
  rwa [List.append_nil] at h
/-- a byte that comes out at a step fits one of the steps so far -/
theorem own_out (room : Int) (l : List Pc) (y : Pc) (hok : (addR (ownSt ⟨room, 0, []⟩ l) 0 y).2.1 = true) {k : Nat} (hk : k < (addR (ownSt ⟨room, 0, []⟩ l) 0 y).1.2.length) :
    (l ++ [y]).any (fitB k ((addR (ownSt ⟨room, 0, []⟩ l) 0 y).1.2.getD k 0) (addR (ownSt ⟨room, 0, []⟩ l) 0 y).1 y.1.id) = true :=
  own_fit ((addT_own (ownSt_from l) 0 y).2 hok) hk fun x hx => by
    rcases List.mem_cons.1 hx with rfl | hx
    · simp
    · exact List.mem_append_left _ (List.mem_reverse.1 hx)
/-- .. as the law reckons it, with int's overflow -/
def fitW (k : Nat) (c : Int) (r : Pc) (id : Int) (x : Pc) : Bool :=
  decide (0 ≤ IntKind.i64.wrap ((k : Int) - x.1.off)) && (decide (IntKind.i64.wrap ((k : Int) - x.1.off) < (x.2.length : Int)) && (decide (x.2.getD (IntKind.i64.wrap ((k : Int) - x.1.off)).toNat 0 = c) && (decide (x.1.s = r.1.s ∧ x.1.a = r.1.a) && (decide (x.1.t = r.1.t ∧ x.1.b = r.1.b) && (decide (x.1.proto = r.1.proto) && decide (x.1.id = id))))))
theorem fit_w {k : Nat} {c : Int} {r : Pc} {id : Int} {x : Pc} (hx : x.2.length ≤ 9223372036854775807) (h : fitB k c r id x = true) : fitW k c r id x = true := by
  unfold fitB at h
  simp only [Bool.and_eq_true, decide_eq_true_eq] at h
  have e : IntKind.i64.wrap ((k : Int) - x.1.off) = (k : Int) - x.1.off := IntWalk.i64_in _ (by omega)
  unfold fitW
  rw [e]
  simp only [Bool.and_eq_true, decide_eq_true_eq]
  exact h
theorem any_w {l : List Pc} {k : Nat} {c : Int} {r : Pc} {id : Int} (hx : ∀ x ∈ l, x.2.length ≤ 9223372036854775807) (h : l.any (fitB k c r id) = true) : l.any (fitW k c r id) = true := by
  obtain ⟨x, h1, h2⟩ := List.any_eq_true.1 h
  exact List.any_eq_true.2 ⟨x, h1, fit_w (hx x h1) h2⟩
end Go.Proofs.Ytcnnpfjommiafaa.fgC

/-
  Add of any packet, also of one with a load that may not be.
-/
namespace Go.Proofs.Ytcnnpfjommiafaa.fgC
open Go.ChangeShapes Go.WideShapes Go.ChangeAt Go.RowKit
open Go.Proofs.Ytcnnpfjommiafaa.memC Go.Proofs.Ytcnnpfjommiafaa.genC Go.Proofs.Ytcnnpfjommiafaa.butC Go.Proofs.Ytcnnpfjommiafaa.freeC Go.Proofs.Ytcnnpfjommiafaa.adC
open Go.Proofs.Ytcnnpfjommiafaa.pkC (Pkt pktL pktV pktT adrC)
set_option linter.unusedVariables false
set_option maxRecDepth 100000 in
set_option maxHeartbeats 8000000 in
theorem add_errB (w : World) (S : Nat → Prop) (t : Nat) (room now0 now : Int) (m : Nat) (ov : Value) (ps : List Pp) (p : Pkt) (A : Option Addr) (n c : Nat) (xs : List Int) (h : TC w S t room now0 m ov ps) (hn0 : -9223372036854775808 ≤ now0 ∧ now0 ≤ 9223372036854775807) (hnw : -9223372036854775808 ≤ now ∧ now ≤ 9223372036854775807) (hp : p.Ok) (hx : Nums .u8 w w.heap.size A n xs) (hsx : 0 < n → ∀ k, S k → ∀ i, A ≠ some ⟨k, i, none⟩) (hn : n ≤ 9223372036854775807) (hmy : mayP (p, xs) = false) :
    Calls Try.prog 12 #[.pointer (some ⟨t, 0, none⟩), .int .i64 now, .agg (pktV p A n c)] w (fun e w' => e = .returned (.tuple #[.agg (pktV zPkt none 0 0), .bool false, .int .i64 3]) ∧ TC w' S t room (laterT now0 now) m ov ps ∧ Fs S w w') := by
  obtain ⟨g5, hg5⟩ : ∃ g, g = w.heap.size := ⟨_, rfl⟩
  obtain ⟨W, hW⟩ : ∃ W, W = (w.alloc (.cells (pktV p A n c) 28)).alloc (.cells (pktV zPkt none 0 0) 28) := ⟨_, rfl⟩
  have HB := Lib.hid (show Below w.heap.size w W by rw [hW]; exact (alloc_below _ _).trans ((alloc_below _ _).mono (alloc_below _ _).size))
  have R5 := Lib.hid (show W.heap[g5]? = some (.cells (pktV p A n c) 28 (0, 0)) by rw [hW, hg5]; exact (two_rows w _ _ _ _).1)
  have R6 := Lib.hid (show W.heap[g5 + 1]? = some (.cells (pktV zPkt none 0 0) 28 (0, 0)) by rw [hW, hg5]; exact (two_rows w _ _ _ _).2)
  have HG5 := Lib.hid hg5
  have TW := Lib.hid (h.below HB.out)
  have NS := Lib.hid (show ∀ k, S k → k < g5 from fun k hk => by rw [hg5]; exact h.lt k hk)
  have MD := Lib.hid (made_any W S t room now0 m ov ps TW.out)
  have TL := Lib.hid (tell_any W S t room now0 now m ov ps TW.out hn0 hnw)
  obtain ⟨now1, hnow1⟩ : ∃ x, x = laterT now0 now := ⟨_, rfl⟩
  rw [← hnow1] at TL
  try rw [← hnow1]
  try rw [← hnow1] at HBg
  have I := Lib.hid (pkt_info hp A n c)
  have OC := Lib.hid (pkC.pkC hp A n c)
  have HP := Lib.hid hp
  have HX := Lib.hid hx
  have HL := Lib.hid hx.len
  have HN7 := Lib.hid hn
  have HSX := Lib.hid hsx
  have KZ : (zeroValue 28).run Try.prog (w.alloc (.cells (pktV p A n c) 28)) = .ok (.agg (pktV zPkt none 0 0)) (w.alloc (.cells (pktV p A n c) 28)) := zeroPktK _
  have MY := Lib.hid (fun w' => cmay_fg p A n c xs w' hp hx.len (by omega))
  have WH := Lib.hid (fun w' => cwhole_fg p A n c xs w' hp)
  have XI := Lib.hid (pkt_info zPkt_okM none 0 0)
  have XO := Lib.hid (pkt_one zPkt none 0 0)
  clear h hn0 hnw hp hx hsx hn hnow1
  generalize mayP (p, xs) = my at *
  subst hmy
  generalize wholeP (p, xs) = wh at *
  go_enter Try.func12, Try.ntmps12
  go_upto_region 1 with fail
  rw [← hW]
  rw [← hg5]
  clear hW hg5 KZ
  go_upto_region 4 with (first
    | (go_at_call 27; refine MD.out.mono ?_; rintro e w2 ⟨rfl, hw⟩; obtain rfl := hw.symm)
    | (go_at_call 28; refine TL.out.mono ?_; rintro e Wt ⟨rfl, hT, hB⟩
       have T2 := Lib.hid hT
       have B2 := Lib.hid hB
       clear hT hB))
  have T5N := Lib.hid (show g5 ≠ t ∧ g5 + 1 ≠ t by have := NS.out t TW.out.st; omega)
  have R5t := Lib.hid (show Wt.heap[g5]? = some (.cells (pktV p A n c) 28 (0, 0)) from (B2.out.block _ (Array.getElem?_eq_some_iff.1 R5.out).1 T5N.out.1).trans R5.out)
  have R6t := Lib.hid (show Wt.heap[g5 + 1]? = some (.cells (pktV zPkt none 0 0) 28 (0, 0)) from (B2.out.block _ (Array.getElem?_eq_some_iff.1 R6.out).1 T5N.out.2).trans R6.out)
  have FT := Lib.hid (show Fs S w Wt from (Fs.below HB.out).trans (fs_but B2.out TW.out.st))
  have SZT := Lib.hid (show g5 + 2 ≤ Wt.heap.size by have := (Array.getElem?_eq_some_iff.1 R6t.out).1; omega)
  have KR := Lib.hid (fun w' (h : Gr Wt w') => h.row R5t.out)
  have KR6 := Lib.hid (fun w' (h : Gr Wt w') => h.row R6t.out)
  have KLD := Lib.hid (fun w' (h : Gr Wt w') => pkC.PkC.cell (KR.out w' h) OC.out.load)
  have HXt := Lib.hid (show Nums .u8 Wt Wt.heap.size A n xs by
    refine ⟨HX.out.len, fun h0 => ?_⟩
    obtain ⟨b, o, e, hb, hc⟩ := HX.out.at_ h0
    refine ⟨b, o, e, Nat.lt_of_lt_of_le hb FT.out.size, fun i hi => ?_⟩
    have hbs : ¬ S b := fun hs => HSX.out h0 b hs o e
    exact (World.cell?_of_block (w := w) (w' := Wt) (FT.out.block b hb hbs)).trans (hc i hi))
  have GG := Lib.hid (show Gr Wt Wt from Below.refl _ _)
  clear MD TL TW B2 R5 R6 R5t R6t
  go_upto_region 5 with (first
    | go_skip
    | (with_reducible refine atC.at_load 28 5 ?_; refine wpList_load_rowG (by kernel_rfl) 28 (.tmp 5) rfl g5 (by kernel_rfl) _ _ _ _ (KR.out _ GG.out) Try.underlying28 rfl I.out ?_)
    | (go_at_call 21; refine (MY.out Wt).mono ?_; rintro e Wa ⟨rfl, hb⟩
       have Ga := Lib.hid (show Gr Wt Wa from hb)
       clear hb)
    | (with_reducible refine atC.at_load 28 5 ?_; refine wpList_load_rowG (by kernel_rfl) 28 (.tmp 5) rfl g5 (by kernel_rfl) _ _ _ _ (KR.out _ Ga.out) Try.underlying28 rfl I.out ?_)
    | (go_at_call 22; refine (WH.out Wa).mono ?_; rintro e Wb ⟨rfl, hb⟩
       have Gb := Lib.hid (show Gr Wt Wb from Ga.out.trans (hb.mono Ga.out.size))
       have klb := KLD.out Wb Gb.out
       clear hb))
  go_wp2_with (first
    | (with_reducible refine at_buildK 28 ?_; refine adC.wpList_zero rfl 28 rfl (pktV zPkt none 0 0) zpkB ?_)
    | (refine wpList_store_row rfl 28 (.tmp 6) (.tmp 34) rfl (g5 + 1) (pktV zPkt none 0 0) rfl rfl _ _ (KR6.out _ Ga.out) XI.out rfl XO.out ?_))
  have HT9 := Lib.hid (T2.out.below (show Below Wt.heap.size Wt Wa from Ga.out))
  refine bodyPost_ret (v := .tuple #[.agg (pktV zPkt none 0 0), .bool false, .int .i64 3]) (results_cell_tmp2 Try.results12 _ _ (g5 + 1) _ _ _ _ _ _ (by rfl) (setRow_heap _ _ _ _ _ _ (KR6.out _ Ga.out)) Try.underlying28 rfl XI.out (by rfl) (by rfl)) rfl ?_
  refine ⟨rfl, HT9.out.setRow (fun hs => by have := NS.out _ hs; omega) _, ?_⟩
  exact fs_setRow (FT.out.trans (Fs.below Ga.out)) (by rw [← HG5.out]; omega) _
/-- .. over numbers: no bound on the load -/
theorem tadd_any {w : World} {S : Nat → Prop} {t : Nat} {st : TSt} {now : Int} {p : Pkt} {A : Option Addr} {n c : Nat} {xs : List Int} (h : Tb w S t st) (hnw : -9223372036854775808 ≤ now ∧ now ≤ 9223372036854775807) (hp : p.Ok) (hx : Nums .u8 w w.heap.size A n xs) (hsx : 0 < n → ∀ k, S k → ∀ i, A ≠ some ⟨k, i, none⟩) (hb : ∀ x ∈ xs, Byte x) (hn : n ≤ 9223372036854775807) :
    AddCall w t now p A n c (AddR Tb w S t (addR st now (p, xs)) (addT st now (p, xs))) := by
  cases hmy : mayP (p, xs)
  · obtain ⟨room, t0, l⟩ := st
    unfold addR addT
    have e : addP ⟨room, laterT t0 now, l⟩ (p, xs) = ((zPc, false, 3), l) := by
      unfold addP
      rw [if_pos (by rw [hmy]; rfl)]
    rw [e]
    obtain ⟨m, ov, ps, hT, hR, hr, hl, ht⟩ := h
    refine (add_errB w S t room t0 now m ov ps p A n c xs hT ht hnw hp hx hsx hn hmy).mono ?_
    rintro e w' ⟨rfl, h1, h2⟩
    exact ⟨none, 0, 0, S, rfl, zP_nums _, Nat.le_refl _, by decide, ⟨m, ov, ps, h1, hR, hr, hl, later_ok ht⟩, fun k hk => .inl hk, h2⟩
  · have h1 := may_facts hmy
    have h2 := hx.len
    unfold endP at h1
    simp only [h2] at h1
    exact tadd h hnw hp hx hsx hb (by omega)
end Go.Proofs.Ytcnnpfjommiafaa.fgC

/-
  The walk of FragOwn.
-/
namespace Go.Proofs.Ytcnnpfjommiafaa.fgC
open Go.ChangeShapes Go.WideShapes Go.ChangeAt Go.RowKit
open Go.Proofs.Ytcnnpfjommiafaa.memC Go.Proofs.Ytcnnpfjommiafaa.genC Go.Proofs.Ytcnnpfjommiafaa.butC Go.Proofs.Ytcnnpfjommiafaa.freeC Go.Proofs.Ytcnnpfjommiafaa.adC
open Go.Proofs.Ytcnnpfjommiafaa.pkC (Pkt pktL pktV pktT adrC)
set_option linter.unusedVariables false
set_option linter.constructorNameAsVariable false
theorem addP_ok {st : TSt} {q : Pc} {L : List Pc} (h : FromL L st.l) (hL : ∀ x ∈ L, x.1.Ok) (hq : q.1.Ok) : (addP st q).1.1.1.Ok := by
  unfold addP
  split
  · exact zPkt_okM
  split
  · split
    · exact outP_ok hq _
    · exact hq
  split
  · exact zPkt_okM
  · rename_i i hf
    obtain ⟨hi, -, -⟩ := List.findIdx?_eq_some_iff_getElem.1 hf
    have hx0 : st.l.getD i (0, []) = st.l[i] := by rw [List.getD_eq_getElem?_getD, List.getElem?_eq_getElem hi]; rfl
    have hm : ∀ z ∈ (st.l.getD i (0, [])).2, z.1.Ok := fun z hz => hL z (h.mem _ (by rw [hx0]; exact List.getElem_mem hi) z hz)
    simp only
    split
    · exact zPkt_okM
    split
    · exact zPkt_okM
    split
    · exact zPkt_okM
    split
    · rename_i r hj
      obtain ⟨-, z, hz, hz2⟩ := join_in _ _ [] zPc r (fun k hk => by simp at hk) (.inl rfl) hj
      rw [hz2]
      refine outP_ok ?_ _
      rcases List.mem_append.1 hz with hz | hz
      · exact hm z hz
      · obtain rfl := List.mem_singleton.1 hz; exact hq
    · exact zPkt_okM
theorem addR_ok {room : Int} {l : List Pc} {y : Pc} (hl : ∀ x ∈ l, x.1.Ok) (hy : y.1.Ok) : (addR (ownSt ⟨room, 0, []⟩ l) 0 y).1.1.Ok :=
  addP_ok (st := { ownSt ⟨room, 0, []⟩ l with t := laterT (ownSt ⟨room, 0, []⟩ l).t 0 }) (ownSt_from l) (fun x hx => hl x (List.mem_reverse.1 hx)) hy
theorem eql_ptr_nil {P : Program} (w : World) {tp te : TypeId} (a : Addr) (hp : P.underlying tp = some (.pointer te)) : (binOp .eql tp (.pointer (some a)) (.pointer none)).run P w = .ok (.bool false) w := by
  have h : ∀ d : Nat, (Op.equalIn (d + 1) tp (.pointer (some a)) (.pointer none)).run P w = .ok false w := fun d => by
    simp [Op.equalIn, run_underlying hp]
  simp only [binOp]
  simp [Op.equal, Op.maxDepth, h 9999]
set_option maxRecDepth 100000 in
set_option maxHeartbeats 4000000 in
theorem own_no (room : Int) (A : Option Addr) (n c : Nat) (w : World) (hr : -9223372036854775808 ≤ room ∧ room ≤ 9223372036854775807) (h : ¬ (1 ≤ room ∧ room ≤ 64)) :
    Calls Try.prog 5 #[.int .i64 room, .slice A n c] w (Ret w (.bool true)) := by
  have NO := Lib.hid (frF.no room w hr h)
  have AL := Lib.hid aliveF
  clear hr h
  go_enter Try.func5, Try.ntmps5
  go_wp2_with (first
    | go_skip
    | (go_at_call 11; refine NO.out.mono ?_; rintro e w2 ⟨rfl, hb⟩; have HB2 := Lib.hid hb; clear hb)
    | (go_at_call 7; refine (AL.out _).mono ?_; rintro e w3 ⟨rfl, hb⟩; have HB3 := Lib.hid hb; clear hb))
  go_ret
  exact ⟨rfl, HB2.out.trans (HB3.out.mono HB2.out.size)⟩
set_option maxRecDepth 100000 in
set_option maxHeartbeats 4000000 in
theorem own_far (room : Int) (A : Option Addr) (n c : Nat) (ss : List Se) (w : World) (h : 1 ≤ room ∧ room ≤ 64) (hk : SksE w w.heap.size A n ss) (hnc : n ≤ c) (hf : 70000 < farN (ss.take 100)) :
    Calls Try.prog 5 #[.int .i64 room, .slice A n c] w (Ret w (.bool true)) := by
  have NW := Lib.hid (frF.new room w h.1 h.2)
  have AL := Lib.hid aliveF
  have FAR := Lib.hid (fun w' (hb : Below w.heap.size w w') => far_any A n c ss w' (hk.below hb hb.size) hnc)
  have he := fun (a : Addr) (w' : World) => eql_ptr_nil (P := Try.prog) w' a Try.underlying39
  obtain ⟨fb, hfb⟩ : ∃ b, b = decide (70000 < farN (ss.take 100)) := ⟨_, rfl⟩
  rw [← hfb] at FAR
  rw [decide_eq_true hf] at hfb
  subst hfb
  clear h hk hnc hf
  go_enter Try.func5, Try.ntmps5
  go_upto_region 3 with (first
    | go_skip
    | (go_at_call 11; refine NW.out.mono ?_; rintro e w2 ⟨t, S0, rfl, hT, hS, hb⟩
       have HB2 := Lib.hid hb
       have T2 := Lib.hid hT
       have HS0 := Lib.hid hS
       have FR := Lib.hid (FAR.out w2 hb)
       have he1 := he ⟨t, 0, none⟩ w2
       clear hb hT hS)
    | (go_at_call 15; refine FR.out.mono ?_; rintro e w3 ⟨rfl, hb⟩
       have HB3 := Lib.hid (HB2.out.trans (hb.mono HB2.out.size))
       have B23 := Lib.hid hb
       have he2 := he ⟨t, 0, none⟩ w3
       clear hb))
  clear he he1
  go_wp2_with (first
    | go_skip
    | (go_at_call 7; refine (AL.out _).mono ?_; rintro e w4 ⟨rfl, hb⟩; have HB4 := Lib.hid hb; clear hb))
  go_ret
  exact ⟨rfl, HB3.out.trans (HB4.out.mono HB3.out.size)⟩
theorem stp_src {s : Se} (h : s.Ok) : ∀ j v, (adrC s.e.p.s s.e.p.a)[j]? = some v → s.cells[2 + j]? = some v := fun j v hv => Se.pkt j v (by have := (pkC.pkC h.e.p s.e.A s.e.n s.e.c).src j v hv; simpa [pktV, Pe.cells] using this)
theorem stp_dst {s : Se} (h : s.Ok) : ∀ j v, (adrC s.e.p.t s.e.p.b)[j]? = some v → s.cells[19 + j]? = some v := fun j v hv => by
  have h1 := (pkC.pkC h.e.p s.e.A s.e.n s.e.c).dst j v hv
  have h2 : s.e.cells[17 + j]? = some v := by simpa [pktV, Pe.cells] using h1
  have := Se.pkt (s := s) (17 + j) v h2
  rwa [show 2 + (17 + j) = 19 + j by omega] at this
theorem stp_cells {s : Se} (h : s.Ok) : s.cells[36]? = some (.int .u8 s.e.p.proto) ∧ s.cells[38]? = some (.int .u32 s.e.p.id) ∧ s.cells[41]? = some (.int .i64 s.e.p.off) ∧ s.cells[42]? = some (.slice s.e.A s.e.n s.e.c) := by
  have C := pkC.pkC h.e.p s.e.A s.e.n s.e.c
  refine ⟨Se.pkt 34 _ ?_, Se.pkt 36 _ ?_, Se.pkt 39 _ ?_, Se.pkt 40 _ ?_⟩
  · simpa [pktV, Pe.cells] using C.proto
  · simpa [pktV, Pe.cells] using C.id
  · simpa [pktV, Pe.cells] using C.off
  · simpa [pktV, Pe.cells] using C.load
set_option maxRecDepth 100000 in
set_option maxHeartbeats 16000000 in
theorem own_main (room : Int) (A : Option Addr) (n c : Nat) (ss : List Se) (w : World) (h : 1 ≤ room ∧ room ≤ 64) (hk : SksE w w.heap.size A n ss) (hnc : n ≤ c) (hf : ¬ 70000 < farN (ss.take 100)) :
    Calls Try.prog 5 #[.int .i64 room, .slice A n c] w (Ret w (.bool true)) := by
  have NW := Lib.hid (frF.new room w h.1 h.2)
  have AL := Lib.hid aliveF
  have FAR := Lib.hid (fun w' (hb : Below w.heap.size w w') => far_any A n c ss w' (hk.below hb hb.size) hnc)
  have he := fun (a : Addr) (w' : World) => eql_ptr_nil (P := Try.prog) w' a Try.underlying39
  obtain ⟨fb, hfb⟩ : ∃ b, b = decide (70000 < farN (ss.take 100)) := ⟨_, rfl⟩
  rw [← hfb] at FAR
  rw [decide_eq_false hf] at hfb
  subst hfb
  have HP := Lib.hid (hk.upto (Nat.min_le_left n 100))
  have e100 : ss.take (min n 100) = ss.take 100 := by
    rcases Nat.le_total n 100 with q | q
    · rw [Nat.min_eq_left q, List.take_of_length_le (by rw [hk.row.len]; exact Nat.le_refl _), List.take_of_length_le (by rw [hk.row.len]; exact q)]
    · rw [Nat.min_eq_right q]
  rw [e100] at HP
  have SA := Lib.hid (fun w' => short_any A n c w' hnc)
  have HM := Lib.hid (show min n 100 ≤ 100 from Nat.min_le_right _ _)
  have HMC := Lib.hid (show min n 100 ≤ c from Nat.le_trans (Nat.min_le_left _ _) hnc)
  generalize ss.take 100 = ts at *
  generalize min n 100 = m at *
  have ZST := Lib.hid zeroStep
  clear h hk hnc hf e100
  go_enter Try.func5, Try.ntmps5
  go_upto_region 4 with (first
    | go_skip
    | (go_at_call 11; refine NW.out.mono ?_; rintro e w2 ⟨t, S0, rfl, hT, hS, hb⟩
       have HB2 := Lib.hid hb
       have T2 := Lib.hid hT
       have HS0 := Lib.hid hS
       have FR := Lib.hid (FAR.out w2 hb)
       have he1 := he ⟨t, 0, none⟩ w2
       clear hb hT hS)
    | (go_at_call 15; refine FR.out.mono ?_; rintro e w3 ⟨rfl, hb⟩
       have HB3 := Lib.hid (HB2.out.trans (hb.mono HB2.out.size))
       have B23 := Lib.hid hb
       have he2 := he ⟨t, 0, none⟩ w3
       clear hb))
  clear he he1 he2 FAR FR
  have T3 := Lib.hid (frF.keep w2 w3 S0 t _ T2.out B23.out.size (fun k hk => B23.out.block k (frF.lt _ _ _ _ T2.out k hk)))
  go_upto_region 5 with (go_at_call 16; refine (SA.out _).mono ?_; rintro e w4 ⟨rfl, hw⟩; obtain rfl := hw.symm)
  clear T2 B23
  go_loopw [44] (fun u wr => ∃ (i : Nat) (S : Nat → Prop), u = .int .i64 i ∧ i ≤ m ∧ Tb wr S t (ownSt ⟨room, 0, []⟩ ((ts.take i).map fun s => s.e.pc)) ∧ (∀ k, S k → w.heap.size ≤ k) ∧ Below w.heap.size w wr) (fun u _ => 1000 - (intOf u).toNat)
  case atStart => exact ⟨0, S0, rfl, Nat.zero_le _, T3.out, HS0.out, HB3.out⟩
  case round =>
    obtain ⟨i, S, rfl, hi, hT, hS, hb⟩ := hrel
    have HB := Lib.hid hb
    have HT := Lib.hid hT
    have HS := Lib.hid hS
    by_cases hlt : i < m
    rotate_left
    · have q6 : ¬ (i : Int) < (m : Int) := by omega
      clear hlt hi hT hS hb
      go_wp2_with (first
        | (go_at_call 7; refine (AL.out _).mono ?_; rintro e w5 ⟨rfl, hb⟩; have HB5 := Lib.hid hb; clear hb))
      go_ret
      exact ⟨rfl, HB.out.trans (HB5.out.mono HB.out.size)⟩
    have q6 : (i : Int) < (m : Int) := by omega
    have wi : IntKind.i64.wrap ((i : Int) + 1) = (i : Int) + 1 := IntWalk.i64_in _ (by have := HM.out; omega)
    obtain ⟨s, hsi⟩ : ∃ s, ts[i]? = some s := ⟨_, List.getElem?_eq_getElem (by rw [HP.out.row.len]; exact hlt)⟩
    obtain ⟨b1, o1, hA1, hb1, c1⟩ := HP.out.row.at_ (by omega)
    have ms := List.mem_of_getElem? hsi
    have os := HP.out.ok s ms
    have HOS := Lib.hid os
    have HI := Lib.hid hlt
    have HTK := Lib.hid (show (ts.take (i + 1)).map (fun s => s.e.pc) = (ts.take i).map (fun s => s.e.pc) ++ [s.e.pc] by rw [List.take_add_one, hsi, List.map_append]; rfl)
    have CST := Lib.hid (fun (w' : World) (hb' : Below w.heap.size w w') (j : Nat) (x : Se) (hx : ts[j]? = some x) => (show ∀ q v, x.cells[q]? = some v → w'.cell? ⟨b1, o1 + j * 43 + q, none⟩ = some v from fun q v hv => (hb'.cell (p := ⟨b1, o1 + j * 43 + q, none⟩) hb1).trans (c1 j x hx q v hv)))
    have C1 := Lib.hid (CST.out wr hb i s hsi)
    have IS := Lib.hid (show (Try.prog.info? 53).map (·.size) = some s.cells.length by rw [Se.cells_len os]; exact step_info)
    have IS2 := Lib.hid (Se.size os)
    have ZSZ := Lib.hid (show (Se.cells ⟨false, 0, ⟨zPkt, none, 0, 0, []⟩⟩).toArray.size = s.cells.toArray.size by rw [List.size_toArray, List.size_toArray, Se.cells_len os]; rfl)
    have OS := Lib.hid (Se.ones s)
    have NX := Lib.hid (show Nums .u8 w w.heap.size s.e.A s.e.n s.e.x from HP.out.ld s ms)
    obtain ⟨W6, hW6⟩ : ∃ W6, W6 = wr.alloc (.cells s.cells.toArray 53) := ⟨_, rfl⟩
    obtain ⟨g8, hg8⟩ : ∃ g, g = wr.heap.size := ⟨_, rfl⟩
    have R8 := Lib.hid (show W6.heap[g8]? = some (.cells s.cells.toArray 53 (0, 0)) by rw [hW6, hg8]; exact heap_alloc_new _ _)
    have A6 := Lib.hid (show Below wr.heap.size wr W6 by rw [hW6]; exact alloc_below _ _)
    have B6 := Lib.hid (show Below w.heap.size w W6 from hb.trans (A6.out.mono hb.size))
    have T6 := Lib.hid (frF.keep wr W6 S t _ hT A6.out.size (fun k hk => A6.out.block k (frF.lt _ _ _ _ hT k hk)))
    have C6 := Lib.hid (show ∀ j v, s.e.cells[j]? = some v → W6.cell? ⟨g8, 2 + j, none⟩ = some v from fun j v hv => pkC.PkC.cell R8.out (by rw [List.getElem?_toArray]; exact Se.pkt j v hv))
    have IPK := Lib.hid (pkt_size os.e.p)
    obtain ⟨st, hst⟩ : ∃ q, q = ownSt ⟨room, 0, []⟩ ((ts.take i).map fun s => s.e.pc) := ⟨_, rfl⟩
    rw [← hst] at T6
    obtain ⟨rr, hrr⟩ : ∃ r, r = addR st 0 s.e.pc := ⟨_, rfl⟩
    have AD := Lib.hid (tadd_any (now := 0) (c := s.e.c) T6.out (by decide) os.e.p ((NX.out.below B6.out).more B6.out.size) (fun h0 k hk9 q e => by
      obtain ⟨b, o, e2, hbl, -⟩ := NX.out.at_ h0
      rw [e2] at e
      injection e with e
      injection e with e _ _
      have := hS k hk9
      omega) os.e.y (by have := os.e.nc; have := os.e.cm; omega))
    have ey : pktV s.e.p s.e.A s.e.n s.e.c = s.e.cells.toArray := rfl
    unfold AddCall at AD
    rw [ey, show (s.e.p, s.e.x) = s.e.pc from rfl, ← hrr] at AD
    have HRR := Lib.hid hrr
    have HST := Lib.hid hst
    have ROK := Lib.hid (show rr.1.1.Ok by
      rw [hrr, hst]
      refine addR_ok (fun x hx => ?_) os.e.p
      obtain ⟨z, hz, rfl⟩ := List.mem_map.1 hx
      exact (HP.out.ok z (List.mem_of_mem_take hz)).e.p)
    have TST := Lib.hid (show addT st 0 s.e.pc = ownSt ⟨room, 0, []⟩ ((ts.take (i + 1)).map fun s => s.e.pc) by rw [HTK.out, ownSt_snoc, hst])
    have OUT := Lib.hid (show rr.2.1 = true → ∀ k, k < rr.1.2.length → ((ts.take (i + 1)).map fun s => s.e.pc).any (fitW k (rr.1.2.getD k 0) rr.1 s.e.p.id) = true from fun hok k hk => by
      rw [HTK.out]
      refine any_w (fun x hx => ?_) ?_
      · rw [← HTK.out] at hx
        obtain ⟨z, hz, rfl⟩ := List.mem_map.1 hx
        have hz2 := List.mem_of_mem_take hz
        have h1 := (HP.out.ld z hz2).len
        have h2 := (HP.out.ok z hz2).e.nc
        have h3 := (HP.out.ok z hz2).e.cm
        show z.e.x.length ≤ _
        omega
      · rw [hrr, hst] at hok hk ⊢
        exact own_out room _ s.e.pc hok hk)
    have ID8 := Lib.hid (show s.cells[38]? = some (.int .u32 s.e.p.id) from (stp_cells os).2.1)
    have hzs := ZST.out
    have hzv := zeroPktK
    subst hA1
    generalize s.cells = CS at *
    generalize s.e.cells = PC at *
    clear hsi c1 ms os hb1 hlt hi hT hS hb hst hrr ey
    go_upto_region 7 with (first
      | (refine pkC.wpList_load_partG (by kernel_rfl) 53 (.tmp 47) rfl b1 (o1 + i * 43) (by kernel_rfl) CS _ C1.out Try.underlying53 rfl IS.out ?_)
      | (refine wpList_store_row rfl 53 (.tmp 8) (.tmp 48) rfl wr.heap.size CS.toArray rfl rfl _ _ (heap_alloc_new _ _) IS2.out ZSZ.out OS.out ?_; rw [World.setRow_alloc_new]))
    rw [← hW6, ← hg8]
    have HTL := Lib.hid (show ∀ k, S k → k < g8 from fun k hk => by rw [hg8]; exact frF.lt _ _ _ _ HT.out k hk)
    clear hW6 hg8
    go_upto_region 8 with (first
      | (refine pkC.wpList_load_partG (by kernel_rfl) 28 (.tmp 51) rfl g8 2 (by kernel_rfl) PC _ C6.out Try.underlying28 rfl IPK.out ?_)
      | (go_at_call 12; refine AD.out.mono ?_; rintro e w5 ⟨A5, n5, c5, S5, rfl, N5, nc5, cm5, T5, G5, FF⟩
         have HN5 := Lib.hid N5
         have HT5 := Lib.hid T5
         have HG5 := Lib.hid G5
         have HF5 := Lib.hid FF
         have HC5 := Lib.hid (show n5 ≤ c5 ∧ c5 ≤ 9223372036854775807 from ⟨nc5, cm5⟩)
         have XI5 := Lib.hid (pkt_info ROK.out A5 n5 c5)
         have XZ5 := Lib.hid (show (pktV zPkt none 0 0).size = (pktV rr.1.1 A5 n5 c5).size by rw [(pkC.pkC ROK.out A5 n5 c5).size]; rfl)
         have XO5 := Lib.hid (pkt_one rr.1.1 A5 n5 c5)
         clear N5 T5 G5 FF nc5 cm5)
      | (refine wpList_store_row rfl 28 (.tmp 9) (.tmp 54) rfl w5.heap.size (pktV rr.1.1 A5 n5 c5) rfl rfl _ _ (heap_alloc_new _ _) XI5.out XZ5.out XO5.out ?_; rw [World.setRow_alloc_new]))
    obtain ⟨W7, hW7⟩ : ∃ W7, W7 = w5.alloc (.cells (pktV rr.1.1 A5 n5 c5) 28) := ⟨_, rfl⟩
    obtain ⟨g9, hg9⟩ : ∃ g, g = w5.heap.size := ⟨_, rfl⟩
    have R9 := Lib.hid (show W7.heap[g9]? = some (.cells (pktV rr.1.1 A5 n5 c5) 28 (0, 0)) by rw [hW7, hg9]; exact heap_alloc_new _ _)
    have A7 := Lib.hid (show Below w5.heap.size w5 W7 by rw [hW7]; exact alloc_below _ _)
    have B5 := Lib.hid (show Below w.heap.size w w5 from B6.out.trans (HF5.out.to_below HS.out B6.out.size))
    have B7 := Lib.hid (show Below w.heap.size w W7 from B5.out.trans (A7.out.mono B5.out.size))
    have T7 := Lib.hid (show Tb W7 S5 t (ownSt ⟨room, 0, []⟩ ((ts.take (i + 1)).map fun s => s.e.pc)) from TST.out ▸ frF.keep w5 W7 S5 t _ HT5.out A7.out.size (fun k hk => A7.out.block k (frF.lt _ _ _ _ HT5.out k hk)))
    have S7 := Lib.hid (show ∀ k, S5 k → w.heap.size ≤ k from fun k hk => by
      rcases HG5.out k hk with h | h
      · exact HS.out k h
      · have := B6.out.size; omega)
    have N7 := Lib.hid (show Nums .u8 W7 W7.heap.size A5 n5 rr.1.2 from (HN5.out.below A7.out).more A7.out.size)
    have R8W := Lib.hid (show W7.heap[g8]? = some (.cells CS.toArray 53 (0, 0)) from (A7.out.block _ (Nat.lt_of_lt_of_le (Array.getElem?_eq_some_iff.1 R8.out).1 HF5.out.size)).trans (HF5.out.row R8.out (fun hs => by have := HTL.out _ hs; omega)))
    rw [← hW7, ← hg9]
    clear hW7 hg9 hzs hzv AD HT5 HG5 HF5 HN5 A7 T6
    cases hok : rr.2.1
    · clear OUT
      go_wp2_with fail
      go_roundw
      case rel => exact ⟨i + 1, S5, by simp, by have := HI.out; omega, T7.out, S7.out, B7.out⟩
      case measure => have := HM.out; have := HI.out; simp [intOf]; omega
    have c40 : W7.cell? ⟨g9, 40, none⟩ = some (.slice A5 n5 c5) := pkC.PkC.cell R9.out (pkC.pkC ROK.out A5 n5 c5).load
    go_upto_region 10 with fail
    clear c40
    have HOK := Lib.hid hok
    have FIT := Lib.hid (OUT.out hok)
    obtain ⟨ft, hft⟩ : ∃ f : Nat → Pc → Bool, f = fun k => fitW k (rr.1.2.getD k 0) rr.1 s.e.p.id := ⟨_, rfl⟩
    have FTA := Lib.hid (show ∀ k, k < n5 → ((ts.take (i + 1)).map fun s => s.e.pc).any (ft k) = true from fun k hk => by rw [hft]; exact FIT.out k (by rw [N7.out.len]; exact hk))
    have HFT := Lib.hid hft
    have MS := Lib.hid (fun (j : Nat) (x : Se) (hx : ts[j]? = some x) => (show x.Ok ∧ Nums .u8 w w.heap.size x.e.A x.e.n x.e.x from ⟨HP.out.ok x (List.mem_of_getElem? hx), HP.out.ld x (List.mem_of_getElem? hx)⟩))
    have MLT := Lib.hid (show ∀ j, j < m → ∃ x, ts[j]? = some x from fun j hj => ⟨_, List.getElem?_eq_getElem (by rw [HP.out.row.len]; exact hj)⟩)
    have R8w := Lib.hid (show W7.heap[g8]? = some (.cells CS.toArray 53 (0, 0)) from R8W.out)
    clear hok OUT FIT hft
    go_loopw [62] (fun u wq => ∃ k : Nat, u = .int .i64 k ∧ k ≤ n5 ∧ Below W7.heap.size W7 wq) (fun u _ => n5 + 1 - (intOf u).toNat)
    case atStart => exact ⟨0, rfl, Nat.zero_le _, Below.refl _ _⟩
    case round =>
      obtain ⟨k, rfl, hk, hbq⟩ := hrel
      have HBQ := Lib.hid hbq
      by_cases hkn : k < n5
      rotate_left
      · have q7 : ¬ (k : Int) < (n5 : Int) := by omega
        clear hk hkn hbq
        go_wp2_with fail
        go_roundw
        case rel => exact ⟨i + 1, S5, by simp, by have := HI.out; omega, frF.keep W7 wr S5 t _ T7.out HBQ.out.size (fun k hk => HBQ.out.block k (frF.lt _ _ _ _ T7.out k hk)), S7.out, B7.out.trans (HBQ.out.mono B7.out.size)⟩
        case measure => have := HM.out; have := HI.out; simp [intOf]; omega
      have q7 : (k : Int) < (n5 : Int) := by omega
      have wk : IntKind.i64.wrap ((k : Int) + 1) = (k : Int) + 1 := IntWalk.i64_in _ (by have := HC5.out; omega)
      obtain ⟨b5, o5, hA5, hb5, hc5⟩ := N7.out.at_ (by omega)
      have cb5 : wr.cell? ⟨b5, o5 + k, none⟩ = some (.int .u8 (rr.1.2.getD k 0)) := (hbq.cell (p := ⟨b5, o5 + k, none⟩) hb5).trans (hc5 k hkn)
      have sc : (Instr.slice 49 (.slice (some ⟨b1, o1, none⟩) m c) none (some (.int .i64 ((i : Int) + 1))) none).run Try.prog wr = .ok (.slice (some ⟨b1, o1, none⟩) (i + 1) c) wr := by
        have h9 := cut_headS (some ⟨b1, o1, none⟩) m c (i + 1) (by have := HMC.out; have := HI.out; omega) wr
        rwa [show (((i + 1 : Nat)) : Int) = (i : Int) + 1 by omega] at h9
      have HKN := Lib.hid hkn
      obtain ⟨cb, hcb⟩ : ∃ q, q = rr.1.2.getD k 0 := ⟨_, rfl⟩
      rw [← hcb] at cb5
      have HCB := Lib.hid hcb
      subst hA5
      clear hk hkn hbq hb5 hc5 hcb
      go_upto_region 14 with (go_at_call 16; refine (SA.out _).mono ?_; rintro e w4 ⟨rfl, hw⟩; obtain rfl := hw.symm)
      have e73 : ((i + 1 : Nat) : Int) = (i : Int) + 1 := by omega
      go_loopw [14, 73] (fun fb u wz => ∃ j : Nat, u = .int .i64 j ∧ j ≤ i + 1 ∧ fb = .bool (((ts.take j).map fun s => s.e.pc).any (ft k)) ∧ Below W7.heap.size W7 wz) (fun _ u _ => i + 2 - (intOf u).toNat)
      case atStart => exact ⟨0, rfl, Nat.zero_le _, rfl, HBQ.out⟩
      case round =>
        obtain ⟨j, rfl, hj, rfl, hbz⟩ := hrel
        have HBZ := Lib.hid hbz
        by_cases hji : j < i + 1
        rotate_left
        · have ej : j = i + 1 := by omega
          subst ej
          rw [FTA.out k HKN.out]
          clear hj hji hbz
          go_wp2_with fail
          go_roundw
          case rel => exact ⟨k + 1, by simp, by have := HKN.out; omega, HBZ.out⟩
          case measure => have := HKN.out; simp [intOf]; omega
        obtain ⟨x, hx⟩ := MLT.out j (by have := HI.out; omega)
        obtain ⟨ox9, nx9⟩ := MS.out j x hx
        have HJ := Lib.hid (show j + 1 ≤ i + 1 by omega)
        have qj : (j : Int) < (i : Int) + 1 := by omega
        have wj : IntKind.i64.wrap ((j : Int) + 1) = (j : Int) + 1 := IntWalk.i64_in _ (by have := HM.out; have := HI.out; omega)
        have EV := Lib.hid (show ((ts.take (j + 1)).map fun s => s.e.pc).any (ft k) = (((ts.take j).map fun s => s.e.pc).any (ft k) || ft k x.e.pc) by rw [List.take_add_one, hx, List.map_append, List.any_append]; simp)
        obtain ⟨fd, hfd⟩ : ∃ q, q = ((ts.take j).map fun s => s.e.pc).any (ft k) := ⟨_, rfl⟩
        rw [← hfd] at EV ⊢
        have CX := Lib.hid (CST.out wr (B7.out.trans (HBZ.out.mono B7.out.size)) j x hx)
        have JS := Lib.hid (show (Try.prog.info? 53).map (·.size) = some x.cells.length by rw [Se.cells_len ox9]; exact step_info)
        have JS2 := Lib.hid (Se.size ox9)
        have JZ := Lib.hid (show (Se.cells ⟨false, 0, ⟨zPkt, none, 0, 0, []⟩⟩).toArray.size = x.cells.toArray.size by rw [List.size_toArray, List.size_toArray, Se.cells_len ox9]; rfl)
        have JO := Lib.hid (Se.ones x)
        obtain ⟨W9, hW9⟩ : ∃ W9, W9 = wr.alloc (.cells x.cells.toArray 53) := ⟨_, rfl⟩
        obtain ⟨g16, hg16⟩ : ∃ g, g = wr.heap.size := ⟨_, rfl⟩
        have R16 := Lib.hid (show W9.heap[g16]? = some (.cells x.cells.toArray 53 (0, 0)) by rw [hW9, hg16]; exact heap_alloc_new _ _)
        have A9 := Lib.hid (show Below wr.heap.size wr W9 by rw [hW9]; exact alloc_below _ _)
        have BZ9 := Lib.hid (show Below W7.heap.size W7 W9 from hbz.trans (A9.out.mono hbz.size))
        have B9w := Lib.hid (show Below w.heap.size w W9 from B7.out.trans (BZ9.out.mono B7.out.size))
        have Q9 := Lib.hid (show W9.heap[g9]? = some (.cells (pktV rr.1.1 (some ⟨b5, o5, none⟩) n5 c5) 28 (0, 0)) from (BZ9.out.block _ (Array.getElem?_eq_some_iff.1 R9.out).1).trans R9.out)
        have Q8 := Lib.hid (show W9.heap[g8]? = some (.cells CS.toArray 53 (0, 0)) from (BZ9.out.block _ (Array.getElem?_eq_some_iff.1 R8w.out).1).trans R8w.out)
        have SP := stp_cells ox9
        have PQ := pkC.pkC ROK.out (some ⟨b5, o5, none⟩) n5 c5
        have C36 := Lib.hid (show W9.cell? ⟨g16, 36, none⟩ = some (.int .u8 x.e.p.proto) from pkC.PkC.cell R16.out (by rw [List.getElem?_toArray]; exact SP.1))
        have C38 := Lib.hid (show W9.cell? ⟨g16, 38, none⟩ = some (.int .u32 x.e.p.id) from pkC.PkC.cell R16.out (by rw [List.getElem?_toArray]; exact SP.2.1))
        have C41 := Lib.hid (show W9.cell? ⟨g16, 41, none⟩ = some (.int .i64 x.e.p.off) from pkC.PkC.cell R16.out (by rw [List.getElem?_toArray]; exact SP.2.2.1))
        have C42 := Lib.hid (show W9.cell? ⟨g16, 42, none⟩ = some (.slice x.e.A x.e.n x.e.c) from pkC.PkC.cell R16.out (by rw [List.getElem?_toArray]; exact SP.2.2.2))
        have D34 := Lib.hid (show W9.cell? ⟨g9, 34, none⟩ = some (.int .u8 rr.1.1.proto) from pkC.PkC.cell Q9.out PQ.proto)
        have D38 := Lib.hid (show W9.cell? ⟨g8, 38, none⟩ = some (.int .u32 s.e.p.id) from pkC.PkC.cell Q8.out (by rw [List.getElem?_toArray]; exact ID8.out))
        have SA := Lib.hid (show ∀ q v, (adrC x.e.p.s x.e.p.a)[q]? = some v → W9.cell? ⟨g16, 2 + q, none⟩ = some v from fun q v hv => pkC.PkC.cell R16.out (by rw [List.getElem?_toArray]; exact stp_src ox9 q v hv))
        have SC := Lib.hid (show ∀ q v, (adrC x.e.p.t x.e.p.b)[q]? = some v → W9.cell? ⟨g16, 19 + q, none⟩ = some v from fun q v hv => pkC.PkC.cell R16.out (by rw [List.getElem?_toArray]; exact stp_dst ox9 q v hv))
        have SB := Lib.hid (pkC.PkC.part Q9.out PQ.src)
        have SD := Lib.hid (pkC.PkC.part Q9.out PQ.dst)
        have EQ0 := Lib.hid (fun w' => eqa x.e.p.s rr.1.1.s x.e.p.a rr.1.1.a ox9.e.p.la ROK.out.la w')
        have EQ1 := Lib.hid (fun w' => eqa x.e.p.t rr.1.1.t x.e.p.b rr.1.1.b ox9.e.p.lb ROK.out.lb w')
        rw [← pkC.adrC_arr, ← pkC.adrC_arr] at EQ0 EQ1
        have IA := Lib.hid (pkC.adrC_info (s := x.e.p.s) ox9.e.p.la)
        have IB := Lib.hid (pkC.adrC_info (s := rr.1.1.s) ROK.out.la)
        have IC := Lib.hid (pkC.adrC_info (s := x.e.p.t) ox9.e.p.lb)
        have ID := Lib.hid (pkC.adrC_info (s := rr.1.1.t) ROK.out.lb)
        obtain ⟨AT, hAT⟩ : ∃ q, IntKind.i64.wrap ((k : Int) - x.e.p.off) = q := ⟨_, rfl⟩
        have FW := Lib.hid (show ft k x.e.pc = (decide (0 ≤ AT) && (decide (AT < (x.e.n : Int)) && (decide (x.e.x.getD AT.toNat 0 = cb) && (decide (x.e.p.s = rr.1.1.s ∧ x.e.p.a = rr.1.1.a) && (decide (x.e.p.t = rr.1.1.t ∧ x.e.p.b = rr.1.1.b) && (decide (x.e.p.proto = rr.1.1.proto) && decide (x.e.p.id = s.e.p.id))))))) by
          rw [HFT.out]
          show fitW k (rr.1.2.getD k 0) rr.1 s.e.p.id x.e.pc = _
          rw [← HCB.out]
          unfold fitW
          show (decide (0 ≤ IntKind.i64.wrap ((k : Int) - x.e.p.off)) && (decide (IntKind.i64.wrap ((k : Int) - x.e.p.off) < (x.e.x.length : Int)) && (decide (x.e.x.getD (IntKind.i64.wrap ((k : Int) - x.e.p.off)).toNat 0 = cb) && (decide (x.e.p.s = rr.1.1.s ∧ x.e.p.a = rr.1.1.a) && (decide (x.e.p.t = rr.1.1.t ∧ x.e.p.b = rr.1.1.b) && (decide (x.e.p.proto = rr.1.1.proto) && decide (x.e.p.id = s.e.p.id))))))) = _
          rw [hAT, nx9.len])
        have XB := Lib.hid (show ∀ a : Nat, AT = a → (a : Int) < (x.e.n : Int) → ∃ b o, x.e.A = some ⟨b, o, none⟩ ∧ W9.cell? ⟨b, o + a, none⟩ = some (.int .u8 (x.e.x.getD AT.toNat 0)) from fun a ha hl => by
          obtain ⟨b, o, e1, e2, e3⟩ := nx9.at_ (by omega)
          refine ⟨b, o, e1, ?_⟩
          rw [ha, Int.toNat_natCast]
          exact (B9w.out.cell (p := ⟨b, o + a, none⟩) e2).trans (e3 a (by omega)))
        have hzs := ZST.out
        have hzv := zeroPktK
        generalize x.cells = XC at *
        generalize ft k x.e.pc = fx at *
        generalize x.e.x.getD AT.toNat 0 = xb at *
        generalize x.e.A = Ax at *
        generalize x.e.n = nx at *
        generalize x.e.c = cx at *
        generalize x.e.p.proto = px at *
        generalize x.e.p.id = ix at *
        generalize x.e.p.off = fo at *
        generalize adrC x.e.p.s x.e.p.a = LA at *
        generalize adrC rr.1.1.s rr.1.1.a = LB at *
        generalize adrC x.e.p.t x.e.p.b = LC at *
        generalize adrC rr.1.1.t rr.1.1.b = LD at *
        generalize decide (x.e.p.s = rr.1.1.s ∧ x.e.p.a = rr.1.1.a) = e0 at *
        generalize decide (x.e.p.t = rr.1.1.t ∧ x.e.p.b = rr.1.1.b) = e1 at *
        generalize rr.1.1.proto = pq at *
        generalize s.e.p.id = iq at *
        clear hx ox9 nx9 hj hji hbz hfd SP PQ
        go_upto_region 16 with (first
          | (refine pkC.wpList_load_partG (by kernel_rfl) 53 (.tmp 75) rfl b1 (o1 + j * 43) (by kernel_rfl) XC _ CX.out Try.underlying53 rfl JS.out ?_)
          | (refine wpList_store_row rfl 53 (.tmp 16) (.tmp 76) rfl wr.heap.size XC.toArray rfl rfl _ _ (heap_alloc_new _ _) JS2.out JZ.out JO.out ?_; rw [World.setRow_alloc_new]))
        rw [← hW9, ← hg16]
        clear hW9 hg16 hzs hzv
        have c41 := C41.out
        go_upto_region 17 with fail
        clear c41 hAT
        cases fd
        rotate_left
        · have EW := Lib.hid (EV.out.trans (show (true || fx) = true from rfl))
          clear EV FW XB
          go_wp2_with (first
            | go_skip)
          go_roundw
          case rel => exact ⟨j + 1, by simp, HJ.out, (congrArg Value.bool EW.out).symm, BZ9.out⟩
          case measure => have := HJ.out; simp [intOf]; omega
        by_cases h1 : 0 ≤ AT
        rotate_left
        · have EW := Lib.hid (EV.out.trans (show (false || fx) = false by rw [FW.out]; simp [h1]))
          clear EV FW XB
          go_wp2_with (first
            | go_skip)
          go_roundw
          case rel => exact ⟨j + 1, by simp, HJ.out, (congrArg Value.bool EW.out).symm, BZ9.out⟩
          case measure => have := HJ.out; simp [intOf]; omega
        obtain ⟨a, rfl⟩ : ∃ a : Nat, AT = a := ⟨AT.toNat, by omega⟩
        have c42 := C42.out
        by_cases q2 : (a : Int) < (nx : Int)
        rotate_left
        · have EW := Lib.hid (EV.out.trans (show (false || fx) = false by rw [FW.out]; simp [q2]))
          clear EV FW XB
          go_wp2_with (first
            | go_skip)
          go_roundw
          case rel => exact ⟨j + 1, by simp, HJ.out, (congrArg Value.bool EW.out).symm, BZ9.out⟩
          case measure => have := HJ.out; simp [intOf]; omega
        obtain ⟨b9, o9, rfl, cx9⟩ := XB.out a rfl q2
        clear XB
        cases hb3 : (xb == cb)
        · have h3 : ¬ xb = cb := by simpa using hb3
          have EW := Lib.hid (EV.out.trans (show (false || fx) = false by rw [FW.out]; simp [h3]))
          clear EV FW h3
          go_wp2_with (first
            | go_skip)
          go_roundw
          case rel => exact ⟨j + 1, by simp, HJ.out, (congrArg Value.bool EW.out).symm, BZ9.out⟩
          case measure => have := HJ.out; simp [intOf]; omega
        obtain rfl : xb = cb := by simpa using hb3
        cases e0
        · have EW := Lib.hid (EV.out.trans (show (false || fx) = false by rw [FW.out]; simp))
          clear EV FW
          go_wp2_with (first
            | go_skip
            | (with_reducible refine atC.at_load 24 106 ?_; refine pkC.wpList_load_partG (by kernel_rfl) 24 (.tmp 106) (by kernel_rfl) g16 2 (by kernel_rfl) LA _ SA.out Try.underlying24 rfl IA.out ?_)
            | (with_reducible refine atC.at_load 24 108 ?_; refine pkC.wpList_load_partG (by kernel_rfl) 24 (.tmp 108) (by kernel_rfl) g9 0 (by kernel_rfl) LB _ SB.out Try.underlying24 rfl IB.out ?_)
            | (with_reducible refine atC.at_bin .eql 24 ?_; refine adC.wpList_runG (by kernel_rfl) _ (adC.eq_run (T := 24) (s := 107) (x := 109) rfl (by kernel_rfl) (by kernel_rfl) (EQ0.out _) guard_addr) ?_))
          go_roundw
          case rel => exact ⟨j + 1, by simp, HJ.out, (congrArg Value.bool EW.out).symm, BZ9.out⟩
          case measure => have := HJ.out; simp [intOf]; omega
        cases e1
        · have EW := Lib.hid (EV.out.trans (show (false || fx) = false by rw [FW.out]; simp))
          clear EV FW
          go_wp2_with (first
            | go_skip
            | (with_reducible refine atC.at_load 24 106 ?_; refine pkC.wpList_load_partG (by kernel_rfl) 24 (.tmp 106) (by kernel_rfl) g16 2 (by kernel_rfl) LA _ SA.out Try.underlying24 rfl IA.out ?_)
            | (with_reducible refine atC.at_load 24 108 ?_; refine pkC.wpList_load_partG (by kernel_rfl) 24 (.tmp 108) (by kernel_rfl) g9 0 (by kernel_rfl) LB _ SB.out Try.underlying24 rfl IB.out ?_)
            | (with_reducible refine atC.at_bin .eql 24 ?_; refine adC.wpList_runG (by kernel_rfl) _ (adC.eq_run (T := 24) (s := 107) (x := 109) rfl (by kernel_rfl) (by kernel_rfl) (EQ0.out _) guard_addr) ?_)
            | (with_reducible refine atC.at_load 24 114 ?_; refine pkC.wpList_load_partG (by kernel_rfl) 24 (.tmp 114) (by kernel_rfl) g16 19 (by kernel_rfl) LC _ SC.out Try.underlying24 rfl IC.out ?_)
            | (with_reducible refine atC.at_load 24 116 ?_; refine pkC.wpList_load_partG (by kernel_rfl) 24 (.tmp 116) (by kernel_rfl) g9 17 (by kernel_rfl) LD _ SD.out Try.underlying24 rfl ID.out ?_)
            | (with_reducible refine atC.at_bin .eql 24 ?_; refine adC.wpList_runG (by kernel_rfl) _ (adC.eq_run (T := 24) (s := 115) (x := 117) rfl (by kernel_rfl) (by kernel_rfl) (EQ1.out _) guard_addr) ?_))
          go_roundw
          case rel => exact ⟨j + 1, by simp, HJ.out, (congrArg Value.bool EW.out).symm, BZ9.out⟩
          case measure => have := HJ.out; simp [intOf]; omega
        have c36 := C36.out
        have d34 := D34.out
        cases hb4 : (px == pq)
        · have h4 : ¬ px = pq := by simpa using hb4
          have EW := Lib.hid (EV.out.trans (show (false || fx) = false by rw [FW.out]; simp [h4]))
          clear EV FW h4
          go_wp2_with (first
            | go_skip
            | (with_reducible refine atC.at_load 24 106 ?_; refine pkC.wpList_load_partG (by kernel_rfl) 24 (.tmp 106) (by kernel_rfl) g16 2 (by kernel_rfl) LA _ SA.out Try.underlying24 rfl IA.out ?_)
            | (with_reducible refine atC.at_load 24 108 ?_; refine pkC.wpList_load_partG (by kernel_rfl) 24 (.tmp 108) (by kernel_rfl) g9 0 (by kernel_rfl) LB _ SB.out Try.underlying24 rfl IB.out ?_)
            | (with_reducible refine atC.at_bin .eql 24 ?_; refine adC.wpList_runG (by kernel_rfl) _ (adC.eq_run (T := 24) (s := 107) (x := 109) rfl (by kernel_rfl) (by kernel_rfl) (EQ0.out _) guard_addr) ?_)
            | (with_reducible refine atC.at_load 24 114 ?_; refine pkC.wpList_load_partG (by kernel_rfl) 24 (.tmp 114) (by kernel_rfl) g16 19 (by kernel_rfl) LC _ SC.out Try.underlying24 rfl IC.out ?_)
            | (with_reducible refine atC.at_load 24 116 ?_; refine pkC.wpList_load_partG (by kernel_rfl) 24 (.tmp 116) (by kernel_rfl) g9 17 (by kernel_rfl) LD _ SD.out Try.underlying24 rfl ID.out ?_)
            | (with_reducible refine atC.at_bin .eql 24 ?_; refine adC.wpList_runG (by kernel_rfl) _ (adC.eq_run (T := 24) (s := 115) (x := 117) rfl (by kernel_rfl) (by kernel_rfl) (EQ1.out _) guard_addr) ?_))
          go_roundw
          case rel => exact ⟨j + 1, by simp, HJ.out, (congrArg Value.bool EW.out).symm, BZ9.out⟩
          case measure => have := HJ.out; simp [intOf]; omega
        obtain rfl : px = pq := by simpa using hb4
        have c38 := C38.out
        have d38 := D38.out
        cases hb5 : (ix == iq)
        · have h5 : ¬ ix = iq := by simpa using hb5
          have EW := Lib.hid (EV.out.trans (show (false || fx) = false by rw [FW.out]; simp [h5]))
          clear EV FW h5
          go_wp2_with (first
            | go_skip
            | (with_reducible refine atC.at_load 24 106 ?_; refine pkC.wpList_load_partG (by kernel_rfl) 24 (.tmp 106) (by kernel_rfl) g16 2 (by kernel_rfl) LA _ SA.out Try.underlying24 rfl IA.out ?_)
            | (with_reducible refine atC.at_load 24 108 ?_; refine pkC.wpList_load_partG (by kernel_rfl) 24 (.tmp 108) (by kernel_rfl) g9 0 (by kernel_rfl) LB _ SB.out Try.underlying24 rfl IB.out ?_)
            | (with_reducible refine atC.at_bin .eql 24 ?_; refine adC.wpList_runG (by kernel_rfl) _ (adC.eq_run (T := 24) (s := 107) (x := 109) rfl (by kernel_rfl) (by kernel_rfl) (EQ0.out _) guard_addr) ?_)
            | (with_reducible refine atC.at_load 24 114 ?_; refine pkC.wpList_load_partG (by kernel_rfl) 24 (.tmp 114) (by kernel_rfl) g16 19 (by kernel_rfl) LC _ SC.out Try.underlying24 rfl IC.out ?_)
            | (with_reducible refine atC.at_load 24 116 ?_; refine pkC.wpList_load_partG (by kernel_rfl) 24 (.tmp 116) (by kernel_rfl) g9 17 (by kernel_rfl) LD _ SD.out Try.underlying24 rfl ID.out ?_)
            | (with_reducible refine atC.at_bin .eql 24 ?_; refine adC.wpList_runG (by kernel_rfl) _ (adC.eq_run (T := 24) (s := 115) (x := 117) rfl (by kernel_rfl) (by kernel_rfl) (EQ1.out _) guard_addr) ?_))
          go_roundw
          case rel => exact ⟨j + 1, by simp, HJ.out, (congrArg Value.bool EW.out).symm, BZ9.out⟩
          case measure => have := HJ.out; simp [intOf]; omega
        · obtain rfl : ix = iq := by simpa using hb5
          have EW := Lib.hid (EV.out.trans (show (false || fx) = true by rw [FW.out]; simp [h1, q2]))
          clear EV FW
          go_wp2_with (first
            | go_skip
            | (with_reducible refine atC.at_load 24 106 ?_; refine pkC.wpList_load_partG (by kernel_rfl) 24 (.tmp 106) (by kernel_rfl) g16 2 (by kernel_rfl) LA _ SA.out Try.underlying24 rfl IA.out ?_)
            | (with_reducible refine atC.at_load 24 108 ?_; refine pkC.wpList_load_partG (by kernel_rfl) 24 (.tmp 108) (by kernel_rfl) g9 0 (by kernel_rfl) LB _ SB.out Try.underlying24 rfl IB.out ?_)
            | (with_reducible refine atC.at_bin .eql 24 ?_; refine adC.wpList_runG (by kernel_rfl) _ (adC.eq_run (T := 24) (s := 107) (x := 109) rfl (by kernel_rfl) (by kernel_rfl) (EQ0.out _) guard_addr) ?_)
            | (with_reducible refine atC.at_load 24 114 ?_; refine pkC.wpList_load_partG (by kernel_rfl) 24 (.tmp 114) (by kernel_rfl) g16 19 (by kernel_rfl) LC _ SC.out Try.underlying24 rfl IC.out ?_)
            | (with_reducible refine atC.at_load 24 116 ?_; refine pkC.wpList_load_partG (by kernel_rfl) 24 (.tmp 116) (by kernel_rfl) g9 17 (by kernel_rfl) LD _ SD.out Try.underlying24 rfl ID.out ?_)
            | (with_reducible refine atC.at_bin .eql 24 ?_; refine adC.wpList_runG (by kernel_rfl) _ (adC.eq_run (T := 24) (s := 115) (x := 117) rfl (by kernel_rfl) (by kernel_rfl) (EQ1.out _) guard_addr) ?_))
          go_roundw
          case rel => exact ⟨j + 1, by simp, HJ.out, (congrArg Value.bool EW.out).symm, BZ9.out⟩
          case measure => have := HJ.out; simp [intOf]; omega

/-- the law of FragOwn is true -/
theorem own_walk (room : Int) (A : Option Addr) (n c : Nat) (ss : List Se) (w : World) (hr : -9223372036854775808 ≤ room ∧ room ≤ 9223372036854775807) (hk : SksE w w.heap.size A n ss) (hnc : n ≤ c) :
    Calls Try.prog 5 #[.int .i64 room, .slice A n c] w (Ret w (.bool true)) := by
  by_cases h : 1 ≤ room ∧ room ≤ 64
  · by_cases hf : 70000 < farN (ss.take 100)
    · exact own_far room A n c ss w h hk hnc hf
    · exact own_main room A n c ss w h hk hnc hf
  · exact own_no room A n c w hr h
end Go.Proofs.Ytcnnpfjommiafaa.fgC
