/-
  6 texts of a proof, joined.
-/
import Derived.Test.YtflfkhcbkhdahaaMg15
import Derived.Test.YtflfkhcbkhdahaaMg1
import Derived.Test.YtflfkhcbkhdahaaMg2
import Derived.Test.YtflfkhcbkhdahaaMg9
import Derived.Test.YtflfkhcbkhdahaaMg13
import Derived.Great.BuildSlice
import Derived.Test.YtflfkhcbkhdahaaMg3

/-
  Rows of key tuples in memory; the document's ring in memory.
-/
namespace Go.Proofs.Ytflfkhcbkhdahaa.mkC
open Go.ChangeShapes Go.WideShapes Go.ChangeAt Go.RowKit
open Go.Proofs.Ytflfkhcbkhdahaa.memC Go.Proofs.Ytflfkhcbkhdahaa.genC Go.Proofs.Ytflfkhcbkhdahaa.butC Go.Proofs.Ytflfkhcbkhdahaa.freeC Go.Proofs.Ytflfkhcbkhdahaa.adC Go.Proofs.Ytflfkhcbkhdahaa.rtC
set_option linter.unusedVariables false
/-- a key tuple as it lies, its master key told by where it lies and what it holds -/
structure Ke where
  k : Kt
  A : Option Addr
  n : Nat
  c : Nat
  m : List Int
def Ke.L (e : Ke) : List Value := ktL e.k e.A e.n e.c
def Ke.V (e : Ke) : Array Value := ktV e.k e.A e.n e.c
def Ke.val (e : Ke) : Kp := (e.k, e.m)
def zKe : Ke := ⟨zKt, none, 0, 0, []⟩
structure KeAt (w : World) (B : Nat) (e : Ke) : Prop where
  ok : e.k.Ok
  nums : Nums .u8 w B e.A e.n e.m
  byte : ∀ x ∈ e.m, Byte x
  cap : e.n ≤ e.c
  max : e.c ≤ 9223372036854775807
section
variable {w w' : World} {B B' : Nat} {e : Ke}
theorem KeAt.len (h : KeAt w B e) : e.m.length = e.n := h.nums.len
theorem KeAt.below (h : KeAt w B e) (hb : Below B w w') (hB : B ≤ B') : KeAt w' B' e := ⟨h.ok, (h.nums.below hb).more hB, h.byte, h.cap, h.max⟩
theorem zKe_at (w : World) (B : Nat) : KeAt w B zKe := ⟨zKt_ok, Nums.none_ 0, (fun x hx => by cases hx), Nat.le_refl _, (by unfold zKe; simp)⟩
theorem Ke.L_len (h : KeAt w B e) : e.L.length = 26 := ktL_len h.ok
end
def flatK (es : List Ke) : List Value := es.flatMap Ke.L
theorem flatK_len : ∀ {es : List Ke}, (∀ e ∈ es, e.L.length = 26) → (flatK es).length = es.length * 26
  | [], _ => rfl
  | e :: r, h => by
    have ih := flatK_len (es := r) fun x hx => h x (by simp [hx])
    unfold flatK at ih ⊢
    rw [List.flatMap_cons, List.length_append, ih, h e (by simp), List.length_cons, Nat.succ_mul]; omega
theorem flatK_at : ∀ {es : List Ke} (h : ∀ e ∈ es, e.L.length = 26) (i : Nat) (e : Ke) (j : Nat), es[i]? = some e → j < 26 → (flatK es)[i * 26 + j]? = e.L[j]?
  | [], h, i, e, j, he, hj => by cases he
  | f :: r, h, 0, e, j, he, hj => by
    simp at he; subst he
    unfold flatK
    rw [List.flatMap_cons, Nat.zero_mul, Nat.zero_add, List.getElem?_append_left (by rw [h f (by simp)]; exact hj)]
  | f :: r, h, i + 1, e, j, he, hj => by
    have hl := h f (by simp)
    have ih := flatK_at (es := r) (fun x hx => h x (by simp [hx])) i e j (by simpa using he) hj
    unfold flatK at ih ⊢
    rw [List.flatMap_cons, Nat.succ_mul, List.getElem?_append_right (by rw [hl]; omega), hl]
    rw [show i * 26 + 26 + j - 26 = i * 26 + j by omega]
    exact ih
theorem flatK_one (es : List Ke) : ∀ u ∈ flatK es, u.oneCell' = true := fun u hu => by
  obtain ⟨e, -, h⟩ := List.mem_flatMap.1 hu
  exact kt_one u h
theorem flatK_append (a b : List Ke) : flatK (a ++ b) = flatK a ++ flatK b := List.flatMap_append
/-- the slice at A, of n key tuples, lies from block lo on, below block B -/
structure RowK (w : World) (lo B : Nat) (A : Option Addr) (n : Nat) (es : List Ke) : Prop where
  len : es.length = n
  at_ : 0 < n → ∃ b o, A = some ⟨b, o, none⟩ ∧ lo ≤ b ∧ b < B ∧ ∀ i e, es[i]? = some e → ∀ j v, e.L[j]? = some v → w.cell? ⟨b, o + i * 26 + j, none⟩ = some v
section
variable {w w' : World} {lo B B' : Nat} {A : Option Addr} {n : Nat} {es : List Ke}
theorem RowK.none_ : RowK w lo B none 0 [] := ⟨rfl, fun h => absurd h (Nat.lt_irrefl 0)⟩
theorem RowK.below (h : RowK w lo B A n es) (hb : Below B w w') (hB : B ≤ B') : RowK w' lo B' A n es :=
  ⟨h.len, fun hn => by
    obtain ⟨b, o, e, hlo, hlt, hc⟩ := h.at_ hn
    exact ⟨b, o, e, hlo, by omega, fun i f hf j v hv => (hb.cell (p := ⟨b, o + i * 26 + j, none⟩) hlt).trans (hc i f hf j v hv)⟩⟩
theorem RowK.but {k : Nat} (h : RowK w lo w.heap.size A n es) (hb : But k w w') (hk : k < lo) : RowK w' lo w'.heap.size A n es :=
  ⟨h.len, fun hn => by
    obtain ⟨b, o, e, hlo, hlt, hc⟩ := h.at_ hn
    exact ⟨b, o, e, hlo, by have := hb.size; omega, fun i f hf j v hv => (hb.cell (a := ⟨b, o + i * 26 + j, none⟩) hlt (by show b ≠ k; omega)).trans (hc i f hf j v hv)⟩⟩
theorem RowK.less {lo' : Nat} (h : RowK w lo B A n es) (hl : lo' ≤ lo) : RowK w lo' B A n es :=
  ⟨h.len, fun hn => by
    obtain ⟨b, o, e, hlo, hlt, hc⟩ := h.at_ hn
    exact ⟨b, o, e, by omega, hlt, hc⟩⟩
theorem RowK.take {i : Nat} (h : RowK w lo B A n es) (hi : i ≤ n) : RowK w lo B A i (es.take i) :=
  ⟨by rw [List.length_take, h.len]; omega, fun hn => by
    obtain ⟨b, o, e, hlo, hlt, hc⟩ := h.at_ (by omega)
    refine ⟨b, o, e, hlo, hlt, fun j f hf k v hv => hc j f ?_ k v hv⟩
    by_cases hj : j < i
    · rw [List.getElem?_take_of_lt hj] at hf; exact hf
    · rw [List.getElem?_eq_none (by rw [List.length_take]; omega)] at hf; cases hf⟩
theorem RowK.drop {b o i : Nat} (h : RowK w lo B (some ⟨b, o, none⟩) n es) (hi : i ≤ n) : RowK w lo B (some ⟨b, o + i * 26, none⟩) (n - i) (es.drop i) :=
  ⟨by rw [List.length_drop, h.len], fun hn => by
    obtain ⟨b', o', e, hlo, hlt, hc⟩ := h.at_ (by omega)
    cases e
    refine ⟨b, o + i * 26, rfl, hlo, hlt, fun j f hf k v hv => ?_⟩
    rw [List.getElem?_drop] at hf
    have := hc (i + j) f hf k v hv
    rw [Nat.add_mul, ← Nat.add_assoc] at this
    exact this⟩
end
/-- the call's own row of key tuples -/
def OwnK (w : World) (base : Nat) (v : Value) (es : List Ke) : Prop := w.ownsRow base 41 26 v es.length (flatK es)
section
variable {w w' : World} {base B : Nat} {v : Value} {es : List Ke}
theorem OwnK.nil (w : World) (base : Nat) : OwnK w base (.slice none 0 0) [] := World.ownsRow_nil w base 41 26
theorem OwnK.blk (h : OwnK w base v es) : ∀ g, v.ownBlock = some g → base ≤ g ∧ g < w.heap.size := fun g hg => h.lt g hg
theorem OwnK.form (h : OwnK w base v es) (hok : ∀ e ∈ es, e.L.length = 26) : ∃ A cap, v = .slice A es.length cap ∧ es.length ≤ cap ∧ cap ≤ maxLen ∧ RowK w base w.heap.size A es.length es := by
  rcases h.2 with ⟨rfl, h0⟩ | ⟨g, cap, cur, rfl, hb, hh, hl, hm, hs, ht⟩
  · rw [h0]
    exact ⟨none, 0, rfl, Nat.le_refl _, by simp [maxLen], ⟨h0, fun h => absurd h (Nat.lt_irrefl 0)⟩⟩
  · refine ⟨some ⟨g, 0, none⟩, cap, rfl, hl, hm, rfl, fun hn => ⟨g, 0, rfl, hb, (h.lt g rfl).2, fun i e he j v hv => ?_⟩⟩
    have hj : j < 26 := by
      have := (List.getElem?_eq_some_iff.1 hv).1
      rw [hok e (List.mem_of_getElem? he)] at this
      exact this
    have h1 := World.ownsRow.cells h (g := g) rfl (i * 26 + j) v (by rw [flatK_at hok i e j he hj]; exact hv)
    rw [memC.add_plain] at h1
    rw [show 0 + i * 26 + j = 0 + (i * 26 + j) by omega]
    exact h1
theorem OwnK.keep (h : OwnK w base v es) (hk : ∀ g, base ≤ g → g < w.heap.size → w'.heap[g]? = w.heap[g]?) : OwnK w' base v es := by
  refine ⟨h.1, ?_⟩
  rcases h.2 with h0 | ⟨g, cap, cur, rfl, hb, hh, h'⟩
  · exact .inl h0
  · exact .inr ⟨g, cap, cur, rfl, hb, (hk g hb (h.lt g rfl).2).trans hh, h'⟩
theorem OwnK.below (h : OwnK w base v es) (hb : Below w.heap.size w w') : OwnK w' base v es := h.keep fun g _ hg => hb.block g hg
theorem OwnK.less (h : OwnK w base v es) (hB : B ≤ base) : OwnK w B v es := by
  refine ⟨h.1, ?_⟩
  rcases h.2 with h0 | ⟨g, cap, cur, rfl, hb, hh, h'⟩
  · exact .inl h0
  · exact .inr ⟨g, cap, cur, rfl, Nat.le_trans hB hb, hh, h'⟩
end
theorem rk_infoK : (Try.prog.info? 41).map (fun i => (i.zero, i.size, i.bytes)) = some (some (.agg (ktV zKt none 0 0)), 26, 88) := by kernel_rfl
/-- append(own, key tuples...) -/
theorem run_appK (w : World) (base : Nat) (v : Value) (es : List Ke) (hown : OwnK w base v es) (ty : TypeId)
    (lo B : Nat) (A : Option Addr) (m c : Nat) (fs : List Ke) (hr : RowK w lo B A m fs) (hok : ∀ e ∈ fs, e.L.length = 26) (hl : es.length + m ≤ 1000000) (hA : m = 0 → A = none ∨ ∃ b o, A = some ⟨b, o, none⟩) (hbase : base ≤ w.heap.size) :
    ∃ v' w', (Builtin.append_ #[33, 33] ty #[v, .slice A m c]).run Try.prog w = .ok v' w' ∧ OwnK w' base v' (es ++ fs) ∧ w.grownBy w' v.ownBlock := by
  obtain ⟨i, hi, he⟩ := Option.map_eq_some_iff.1 rk_infoK
  obtain ⟨hz, he2⟩ := Prod.mk.inj he
  obtain ⟨hs, hb⟩ := Prod.mk.inj he2
  have hlq := hr.len
  have main : ∀ b o, A = some ⟨b, o, none⟩ → (∀ i e, fs[i]? = some e → ∀ j v, e.L[j]? = some v → w.cell? ⟨b, o + i * 26 + j, none⟩ = some v) → ∃ v' w', (Builtin.append_ #[33, 33] ty #[v, .slice A m c]).run Try.prog w = .ok v' w' ∧ OwnK w' base v' (es ++ fs) ∧ w.grownBy w' v.ownBlock := by
    rintro b o rfl hc
    obtain ⟨v', w', hrun, h2, h3, _⟩ := run_append_own (P := Try.prog) w base 33 ty 41 i _ 26 88 Try.underlying33 hi hz hs hb rfl (by omega) v _ _ hown ⟨b, o, none⟩ m c (flatK fs) (by rw [flatK_len hok, hlq])
      (fun j u hu => by
        have hj : j < m * 26 := by
          have := (List.getElem?_eq_some_iff.1 hu).1
          rw [flatK_len hok, hlq] at this; exact this
        have hi2 : j / 26 < fs.length := by rw [hlq]; omega
        have hf := List.getElem?_eq_getElem hi2
        have h9 := flatK_at hok (j / 26) _ (j % 26) hf (Nat.mod_lt _ (by omega))
        have e : j / 26 * 26 + j % 26 = j := by omega
        rw [e, hu] at h9
        have := hc (j / 26) _ hf (j % 26) u h9.symm
        rw [memC.add_plain]
        rw [show o + j / 26 * 26 + j % 26 = o + j by omega] at this
        exact this) (flatK_one fs) (by simp only [maxLen]; omega) (by omega) hbase
    refine ⟨v', w', hrun, ?_, h3⟩
    unfold OwnK
    rw [List.length_append, hlq, flatK_append]
    exact h2
  rcases Nat.eq_zero_or_pos m with h0 | h0
  · have hf0 : fs = [] := List.eq_nil_of_length_eq_zero (hlq.trans h0)
    rcases hA h0 with rfl | ⟨b, o, rfl⟩
    · subst h0
      refine ⟨v, w, Go.Proofs.Ytflfkhcbkhdahaa.memC.run_append_nil w base 33 ty 41 i 26 Try.underlying33 hi v _ _ hown c, ?_, World.grownBy.refl w _⟩
      rw [hf0, List.append_nil]; exact hown
    · exact main b o rfl (fun i e h => by rw [hf0] at h; cases h)
  · obtain ⟨b, o, rfl, -, -, hc⟩ := hr.at_ h0
    exact main b o rfl hc
theorem wpList_appK {ops : Array Oper} {rest : List Oper} {o : Oper} {a : Act} {Q : Exit → Act → World → Prop} (w : World) (hgd : o.guard = none) (s x : Operand)
    (ho : o.op = .call { callee := .builtin .append, args := #[s, x], argTypes := #[33, 33] }) (base : Nat) (v : Value) (es : List Ke) (hs : a.eval s = v) (hown : OwnK w base v es) (hoke : ∀ e ∈ es, e.L.length = 26)
    (lo B : Nat) (A : Option Addr) (m c : Nat) (fs : List Ke) (hx : a.eval x = .slice A m c) (hr : RowK w lo B A m fs) (hok : ∀ e ∈ fs, e.L.length = 26) (hl : es.length + m ≤ 1000000) (hm : 0 < m) (hbase : base ≤ w.heap.size) (L : Nat) (hL : es.length + m = L)
    (h : ∀ A' c' w', L ≤ c' → OwnK w' base (.slice A' L c') (es ++ fs) → Below base w w' → w.grownBy w' v.ownBlock → wpList Try.prog ops Q rest (a.put o.dst (.slice A' L c')) w') : wpList Try.prog ops Q (o :: rest) a w := by
  obtain ⟨v', w', hrun, h2, h3⟩ := run_appK w base v es hown o.type lo B A m c fs hr hok hl (fun e => absurd e (by omega)) hbase
  refine wpList_plain hgd fun K hK => ?_
  unfold Oper.wp execOp
  simp only [ho, resolve, invoke, builtin, Sem.run_bind, Sem.run_pure, Result.andThen_ok, List.map_toArray, List.map_cons, List.map_nil, hs, hx, hrun]
  refine hK _ _ ?_
  have e : (es ++ fs).length = L := by rw [List.length_append, hr.len]; exact hL
  obtain ⟨A', c', e2, g1, g2, N⟩ := h2.form (fun e he => by rcases List.mem_append.1 he with h | h; exact hoke e h; exact hok e h)
  rw [e] at e2 g1
  subst e2
  exact h A' c' w' g1 h2 (grown_below h3 hbase fun g hg => (hown.blk g hg).1) h3
/-- a row of one key tuple that was just laid -/
theorem rowK1 {w : World} {g lo : Nat} {T : TypeId} {e : Ke} (hr : w.heap[g]? = some (.cells e.V T (0, 0))) (hlo : lo ≤ g) : RowK w lo w.heap.size (some ⟨g, 0, none⟩) 1 [e] := by
  refine ⟨rfl, fun _ => ⟨g, 0, rfl, hlo, (Array.getElem?_eq_some_iff.1 hr).1, fun i f hf j v hv => ?_⟩⟩
  match i, hf with
  | 0, hf =>
    simp at hf
    subst hf
    rw [cell_of_row w g (0 + 0 * 26 + j) _ _ (0, 0) hr]
    unfold Ke.V ktV
    rw [List.getElem?_toArray, show 0 + 0 * 26 + j = j by omega]
    exact hv
/-! ### the document's ring -/
structure RgD (w : World) (r M : Nat) (A : Option Addr) (n c : Nat) (es : List Ke) (rg : Rg) : Prop where
  row : w.heap[r]? = some (.cells #[.int .i64 rg.last, .slice A n c] 35 (0, 0))
  keys : RowK w (r + 1) w.heap.size A n es
  ok : ∀ e ∈ es, KeAt w M e
  val : es.map Ke.val = rg.l
  nc : n ≤ c
  cm : c ≤ 9223372036854775807
  le : n ≤ 32
  mr : M ≤ r
  l0 : 0 ≤ rg.last
  l1 : rg.last ≤ 2147483647
  nil : n = 0 → A = none ∨ ∃ b o, A = some ⟨b, o, none⟩
def RgAt (w : World) (r M : Nat) (rg : Rg) : Prop := ∃ A n c es, RgD w r M A n c es rg
section
variable {w w' : World} {r M : Nat} {A : Option Addr} {n c : Nat} {es : List Ke} {rg : Rg}
theorem RgD.lt (h : RgD w r M A n c es rg) : r < w.heap.size := lt_of_row h.row
theorem RgD.below (h : RgD w r M A n c es rg) (hb : Below w.heap.size w w') : RgD w' r M A n c es rg :=
  ⟨(hb.block _ h.lt).trans h.row, h.keys.below hb hb.size, fun e he => (h.ok e he).below (hb.mono (by have := h.mr; have := h.lt; omega)) (Nat.le_refl _), h.val, h.nc, h.cm, h.le, h.mr, h.l0, h.l1, h.nil⟩
theorem RgAt.below (h : RgAt w r M rg) (hb : Below w.heap.size w w') : RgAt w' r M rg := by
  obtain ⟨A, n, c, es, h⟩ := h
  exact ⟨A, n, c, es, h.below hb⟩
theorem RgAt.lt (h : RgAt w r M rg) : r < w.heap.size := by obtain ⟨A, n, c, es, h⟩ := h; exact h.lt
theorem RgD.last_ (h : RgD w r M A n c es rg) : w.cell? ⟨r, 0, none⟩ = some (.int .i64 rg.last) := by rw [cell_of_row w r 0 _ _ (0, 0) h.row]; rfl
theorem RgD.l_ (h : RgD w r M A n c es rg) : w.cell? ⟨r, 1, none⟩ = some (.slice A n c) := by rw [cell_of_row w r 1 _ _ (0, 0) h.row]; rfl
theorem RgD.L26 (h : RgD w r M A n c es rg) : ∀ e ∈ es, e.L.length = 26 := fun e he => Ke.L_len (h.ok e he)
end
/-! ### the first one that .. -/
def pickE (es : List Ke) (f : Kp → Bool) (c : Int) : Ke × Int := match es.find? (fun e => f e.val) with | some e => (e, 0) | none => (zKe, c)
theorem find_map (f : Kp → Bool) : ∀ es : List Ke, (es.map Ke.val).find? f = (es.find? fun e => f e.val).map Ke.val
  | [] => rfl
  | e :: r => by
    rw [List.map_cons, List.find?_cons, List.find?_cons, find_map f r]
    cases f e.val <;> rfl
theorem pickE_val (es : List Ke) (f : Kp → Bool) (c : Int) : pickP (es.map Ke.val) f c = ((pickE es f c).1.val, (pickE es f c).2) := by
  unfold pickP pickE
  rw [find_map]
  cases es.find? fun e => f e.val <;> rfl
theorem pickE_at {w : World} {M : Nat} {es : List Ke} (h : ∀ e ∈ es, KeAt w M e) (f : Kp → Bool) (c : Int) : KeAt w M (pickE es f c).1 := by
  unfold pickE
  cases e : es.find? (fun e => f e.val) with
  | none => exact zKe_at w M
  | some x => exact h x (List.mem_of_find?_eq_some e)
theorem pickE_none {es : List Ke} {f : Kp → Bool} (h : ∀ e ∈ es, f e.val = false) (c : Int) : pickE es f c = (zKe, c) := by
  unfold pickE
  rw [List.find?_eq_none.2 fun x hx => by rw [h x hx]; decide]
theorem pickE_hit {es : List Ke} {f : Kp → Bool} {i : Nat} {e : Ke} (h : ∀ x ∈ es.take i, f x.val = false) (he : es[i]? = some e) (hf : f e.val = true) (c : Int) : pickE es f c = (e, 0) := by
  have h2 : es.find? (fun e => f e.val) = some e := by
    have hs : es = es.take i ++ e :: es.drop (i + 1) := by
      obtain ⟨hi, he⟩ := List.getElem?_eq_some_iff.1 he
      rw [← he, List.getElem_cons_drop, List.take_append_drop]
    rw [hs, List.find?_append, List.find?_eq_none.2 (fun x hx => by rw [h x hx]; decide), List.find?_cons, hf]
    rfl
  unfold pickE
  rw [h2]
theorem take_no {es : List Ke} {f : Kp → Bool} {i : Nat} {e : Ke} (h : ∀ x ∈ es.take i, f x.val = false) (he : es[i]? = some e) (hf : f e.val = false) : ∀ x ∈ es.take (i + 1), f x.val = false := fun x hx => by
  rw [List.take_add_one, he] at hx
  rcases List.mem_append.1 hx with hx | hx
  · exact h x hx
  · simp at hx; rw [hx]; exact hf
end Go.Proofs.Ytflfkhcbkhdahaa.mkC

/-
  Get of the document's ring.
-/
namespace Go.Proofs.Ytflfkhcbkhdahaa.mkC
open Go.ChangeShapes Go.WideShapes Go.ChangeAt Go.RowKit
open Go.Proofs.Ytflfkhcbkhdahaa.memC Go.Proofs.Ytflfkhcbkhdahaa.genC Go.Proofs.Ytflfkhcbkhdahaa.butC Go.Proofs.Ytflfkhcbkhdahaa.freeC Go.Proofs.Ytflfkhcbkhdahaa.adC Go.Proofs.Ytflfkhcbkhdahaa.rtC
set_option linter.unusedVariables false
/-- a key tuple and an error's number -/
def PickR (w : World) (M : Nat) (o : Kp × Int) (e : Ending) (w' : World) : Prop :=
  ∃ q : Ke, KeAt w' M q ∧ q.val = o.1 ∧ e = .returned (.tuple #[.agg q.V, .int .i64 o.2]) ∧ Below w.heap.size w w'
theorem Ke.V_size {w : World} {B : Nat} {e : Ke} (h : KeAt w B e) : e.V.size = 26 := ktV_size h.ok
theorem zV_size : (ktV zKt none 0 0).size = 26 := ktV_size zKt_ok
theorem getP_eq (r : Rg) (n : Int) : getP r n = pickP r.l (fun x => decide (x.1.n = n)) 6 := rfl
set_option maxRecDepth 100000 in
set_option maxHeartbeats 4000000 in
theorem rget_any (w : World) (r M : Nat) (rg : Rg) (n : Int) (h : RgAt w r M rg) : Calls Try.prog 20 #[.pointer (some ⟨r, 0, none⟩), .int .i64 n] w (PickR w M (getP rg n)) := by
  have hzv := zeroRk
  obtain ⟨A, m, c, es, hd⟩ := h
  rw [getP_eq, ← hd.val, pickE_val]
  obtain ⟨f, hf⟩ : ∃ f : Kp → Bool, f = fun x => decide (x.1.n = n) := ⟨_, rfl⟩
  rw [← hf]
  obtain ⟨O, hO⟩ : ∃ O, O = pickE es f 6 := ⟨_, rfl⟩
  rw [← hO]
  have HO := Lib.hid hO
  clear hO
  have HF := Lib.hid hf
  obtain ⟨ZV, hZV⟩ : ∃ Z, Z = ktV zKt none 0 0 := ⟨_, rfl⟩
  rw [← hZV] at hzv
  have BZ := Lib.hid (show Try.prog.built 41 [] = some ZV by rw [hZV]; exact built_zrk)
  have IZ := Lib.hid (show (Try.prog.info? 41).map (·.size) = some ZV.size by rw [hZV, zV_size]; exact rk_info)
  have OZ := Lib.hid (show ZV.all (·.oneCell') = true by rw [hZV]; exact kt_ones)
  have SZ := Lib.hid (show ZV.size = 26 by rw [hZV]; exact zV_size)
  have EZ := Lib.hid (show ZV = zKe.V by rw [hZV]; rfl)
  obtain ⟨W, hW⟩ : ∃ W, W = w.alloc (.cells ZV 41) := ⟨_, rfl⟩
  have R := Lib.hid (show W.heap[w.heap.size]? = some (.cells ZV 41 (0, 0)) by rw [hW]; exact heap_alloc_new _ _)
  have HB := Lib.hid (show Below w.heap.size w W by rw [hW]; exact alloc_below _ _)
  have HD := Lib.hid (hd.below HB.out)
  have MR := Lib.hid (show M ≤ w.heap.size by have := hd.mr; have := hd.lt; omega)
  have c1 := HD.out.l_
  have HM := Lib.hid hd.le
  have HNC := Lib.hid hd.nc
  have HCM := Lib.hid hd.cm
  clear hd hZV hf
  go_enter Try.func20, Try.ntmps20
  go_upto_region 2 with fail
  rw [← hW]
  clear hW hzv
  go_loopw [6] (fun u wr => ∃ i : Nat, i ≤ m ∧ u = .int .i64 i ∧ W = wr ∧ ∀ x ∈ es.take i, f x.val = false) (fun u _ => m - (intOf u).toNat)
  case atStart => exact ⟨0, by omega, rfl, rfl, fun x hx => by rw [List.take_zero] at hx; cases hx⟩
  case round =>
    obtain ⟨i, hi, rfl, rfl, HN0⟩ := hrel
    have HN := Lib.hid HN0
    clear HN0
    by_cases hlt : i < m
    rotate_left
    · have q6 : ¬ (i : Int) < (m : Int) := by omega
      have hend := pickE_none (f := f) (es := es) (fun e he => HN.out e (by rw [List.take_of_length_le (by rw [HD.out.keys.len]; omega)]; exact he)) 6
      have HE := Lib.hid (HO.out.trans hend)
      clear hlt hi hend
      go_wp2_with (first
        | (refine adC.wpList_zero rfl 41 rfl ZV BZ.out ?_)
        | (refine wpList_store_row rfl 41 (.tmp 4) (.tmp 33) rfl w.heap.size ZV rfl rfl _ _ R.out IZ.out rfl OZ.out ?_))
      refine bodyPost_ret (v := .tuple #[.agg ZV, .int .i64 6]) (adC.results_cell_tmp Try.results20 _ _ w.heap.size _ _ _ _ _ (by rfl) (setRow_heap _ _ _ _ _ _ R.out) Try.underlying41 rfl IZ.out (by rfl)) rfl ?_
      exact ⟨zKe, zKe_at _ _, by rw [HE.out], by rw [HE.out, EZ.out], setR_belowM HB.out (Nat.le_refl _) _⟩
    have q6 : (i : Int) < (m : Int) := by omega
    obtain ⟨e, hei⟩ : ∃ e, es[i]? = some e := ⟨es[i]'(by rw [HD.out.keys.len]; omega), List.getElem?_eq_getElem _⟩
    obtain ⟨b, o, hA, hlo, hb, hcs⟩ := HD.out.keys.at_ (by omega)
    have oe := HD.out.ok e (List.mem_of_getElem? hei)
    have OE := Lib.hid oe
    have C1 := Lib.hid (hcs i e hei)
    have cn : W.cell? ⟨b, o + i * 26, none⟩ = some (.int .i64 e.k.n) := C1.out 0 _ kt_n
    have IS := Lib.hid (show (Try.prog.info? 41).map (·.size) = some e.L.length by rw [Ke.L_len oe]; exact rk_info)
    have IV := Lib.hid (show (Try.prog.info? 41).map (·.size) = some e.L.toArray.size by rw [List.size_toArray, Ke.L_len oe]; exact rk_info)
    have SV := Lib.hid (show ZV.size = e.L.toArray.size by rw [SZ.out, List.size_toArray, Ke.L_len oe])
    have OV := Lib.hid (show e.L.toArray.all (·.oneCell') = true from kt_ones)
    have HIT := Lib.hid (fun hf => pickE_hit (f := f) HN.out hei hf 6)
    have NO := Lib.hid (fun hf => take_no (f := f) HN.out hei hf)
    have hfe : f e.val = decide (e.k.n = n) := by rw [HF.out]; rfl
    subst hA
    have HI := Lib.hid hlt
    have wi : IntKind.i64.wrap ((i : Int) + 1) = (i : Int) + 1 := IntWalk.i64_in _ (by have := HM.out; omega)
    have EL := Lib.hid (show e.V = e.L.toArray from rfl)
    generalize hCS : e.L = CS at *
    generalize hen : e.k.n = en at *
    clear hei hcs oe hlo hb hlt hi hCS HF
    by_cases hq : en = n
    · subst hq
      have hh := HIT.out (by rw [hfe]; simp)
      have HE := Lib.hid (HO.out.trans hh)
      clear hh hfe hen
      go_wp2_with (first
        | (refine pkC.wpList_load_partG (by kernel_rfl) 41 (.tmp 31) rfl b (o + i * 26) (by kernel_rfl) CS _ C1.out Try.underlying41 rfl IS.out ?_)
        | (refine wpList_store_row rfl 41 (.tmp 4) (.tmp 32) rfl w.heap.size CS.toArray rfl rfl _ _ R.out IV.out SV.out OV.out ?_))
      refine bodyPost_ret (v := .tuple #[.agg CS.toArray, .int .i64 0]) (adC.results_cell_tmp Try.results20 _ _ w.heap.size _ _ _ _ _ (by rfl) (setRow_heap _ _ _ _ _ _ R.out) Try.underlying41 rfl IV.out (by rfl)) rfl ?_
      have B2 := setR_belowM HB.out (Nat.le_refl _) CS.toArray
      exact ⟨e, OE.out.below (setR_belowM (Below.refl M W) (by have := MR.out; omega) _) (Nat.le_refl _), by rw [HE.out], by rw [HE.out, EL.out], B2⟩
    · have hq2 : (en == n) = false := beq_eq_false_iff_ne.2 hq
      have hn := NO.out (by rw [hfe]; exact decide_eq_false hq)
      have HN2 := Lib.hid hn
      clear hn hq
      go_wp2_with fail
      go_roundw
      case rel => exact ⟨i + 1, by have := HI.out; omega, by go_num, (by first | rfl | trivial), HN2.out⟩
      case measure => have := HI.out; simp [intOf]; omega
end Go.Proofs.Ytflfkhcbkhdahaa.mkC

/-
  For of the document's ring.
-/
namespace Go.Proofs.Ytflfkhcbkhdahaa.mkC
open Go.ChangeShapes Go.WideShapes Go.ChangeAt Go.RowKit
open Go.Proofs.Ytflfkhcbkhdahaa.memC Go.Proofs.Ytflfkhcbkhdahaa.genC Go.Proofs.Ytflfkhcbkhdahaa.butC Go.Proofs.Ytflfkhcbkhdahaa.freeC Go.Proofs.Ytflfkhcbkhdahaa.adC Go.Proofs.Ytflfkhcbkhdahaa.rtC
set_option linter.unusedVariables false
attribute [local go_sem] Oper.semAt_some
/-- a slice of one key tuple -/
theorem wpList_sliceKt {ops : Array Oper} {rest : List Oper} {o : Oper} {a : Act} {w : World} {Q : Exit → Act → World → Prop} (hg : o.guard = none) (x : Operand) (ho : o.op = .buildSlice 33 1 #[(0, x)]) (C : Array Value) (hx : a.eval x = .agg C) (hC : C.size = 26)
    (h : wpList Try.prog ops Q rest (a.put o.dst (.slice (some ⟨w.heap.size, 0, none⟩) 1 1)) (w.alloc (.cells C 41))) : wpList Try.prog ops Q (o :: rest) a w := by
  obtain ⟨ie, hie, he⟩ := Option.map_eq_some_iff.1 rk_infoK
  obtain ⟨hz, he2⟩ := Prod.mk.inj he
  obtain ⟨hs, hb⟩ := Prod.mk.inj he2
  refine wpList_buildSlice hg 33 41 1 _ ho C ie _ Try.underlying33 hie hz (by rw [hs]; decide) (by rw [hs]; decide) ?_ h
  rw [hs]
  have := Great.fill_whole (s := 26) (by decide) [Value.agg C] ((Array.range (1 * 26)).map ((Value.agg (ktV zKt none 0 0)).cells[· % (Value.agg (ktV zKt none 0 0)).cells.size]!)) (by simpa [Value.cells] using hC) (by simp)
  simpa [hx, Value.cells] using this
/-- key tuples in a slice of the call's own -/
def ForR (w : World) (M : Nat) (l : List Kp) (e : Ending) (w' : World) : Prop :=
  ∃ A n c fs, e = .returned (.slice A n c) ∧ n ≤ c ∧ OwnK w' w.heap.size (.slice A n c) fs ∧ fs.length = n ∧ fs.map Ke.val = l ∧ (∀ x ∈ fs, KeAt w' M x) ∧ Below w.heap.size w w'
def govE (p : Pr) (e : Ke) : Bool := govB e.k p
theorem forL_eq (es : List Ke) (p : Pr) : (es.map Ke.val).filter (fun x => govB x.1 p) = (es.filter (govE p)).map Ke.val := by
  rw [List.filter_map]
  rfl
theorem forL_def (r : Rg) (p : Pr) : forL r p = r.l.filter fun x => govB x.1 p := rfl
theorem filter_take {g : Ke → Bool} {es : List Ke} {i : Nat} {e : Ke} (h : es[i]? = some e) : (es.take (i + 1)).filter g = (es.take i).filter g ++ (if g e = true then [e] else []) := by
  rw [List.take_add_one, h, List.filter_append]
  cases hg : g e <;> simp [hg]
def frV (r b bx : Nat) (O : Nat) (m c kx : Nat) (CX : List Value) (CP : Array Value) (gv : Bool) : Nat → Value → World → Prop
  | 0, v, _ => v = .pointer (some ⟨r, 0, none⟩)
  | 1, v, _ => v = .pointer (some ⟨r, 0, none⟩)
  | 2, v, _ => v = .pointer (some ⟨r, 1, none⟩)
  | 3, v, _ => v = .slice (some ⟨b, O, none⟩) m c
  | 4, v, _ => v = .int .i64 kx
  | 5, v, _ => v = .pointer (some ⟨b, O + kx * 26, none⟩)
  | 6, v, _ => v = .agg CX.toArray
  | 7, v, _ => v = .agg CP
  | 8, v, _ => v = .bool gv
  | _, _, _ => True
theorem frV.keep (r b bx : Nat) (O : Nat) (m c kx : Nat) (CX : List Value) (CP : Array Value) (gv : Bool) (i : Nat) (v : Value) (w w' : World) (hb : Below w.heap.size w w') (h : frV r b bx O m c kx CX CP gv i v w) : frV r b bx O m c kx CX CP gv i v w' := by
  unfold frV at h ⊢
  split at h <;> exact h
def frT : List (Option Nat) := [none, none, none, none, none, none, none, none, none, none, none, none, none, none, none, none, some 0, some 1, some 2, some 3, some 4, some 5, some 6, some 7, some 8, none, none, none, none, none, none, none, none, none, none, none]
set_option maxRecDepth 100000 in
set_option maxHeartbeats 4000000 in
theorem rfor_any (w : World) (r M : Nat) (rg : Rg) (p : Pr) (h : RgAt w r M rg) (hp : p.Ok) : Calls Try.prog 25 #[.pointer (some ⟨r, 0, none⟩), .agg (prV p)] w (ForR w M (forL rg p)) := by
  obtain ⟨A, m, c, es, hd⟩ := h
  rw [forL_def, ← hd.val, forL_eq]
  obtain ⟨W, hW⟩ : ∃ W, W = w.alloc (.cells (prV p) 30) := ⟨_, rfl⟩
  obtain ⟨bx, hbx⟩ : ∃ b, b = w.heap.size := ⟨_, rfl⟩
  have R := Lib.hid (show W.heap[bx]? = some (.cells (prV p) 30 (0, 0)) by rw [hW, hbx]; exact heap_alloc_new _ _)
  have HB := Lib.hid (show Below w.heap.size w W by rw [hW]; exact alloc_below _ _)
  have HD := Lib.hid (hd.below HB.out)
  have IP := Lib.hid (prV_info hp)
  have GOV := Lib.hid (fun (e : Ke) (h : e.k.Ok) w' => rgov_any e.k p e.A e.n e.c w' h hp)
  have HM := Lib.hid hd.le
  have HMR := Lib.hid (show M ≤ w.heap.size by have := hd.mr; have := hd.lt; omega)
  have HGV := Lib.hid (fun (e : Ke) => (show govB e.k p = govE p e from rfl))
  generalize prV p = CP at *
  generalize govE p = g at *
  clear hd hp
  go_enter Try.func25, Try.ntmps25
  go_upto_region 3 with fail
  rw [← hW, ← hbx]
  clear hW hbx
  go_loopw [5, 6] (fun v u wr => ∃ (i : Nat) (A' : Option Addr) (n' c' : Nat) (fs : List Ke), i ≤ m ∧ u = .int .i64 i ∧ v = .slice A' n' c' ∧ n' ≤ c' ∧ fs = (es.take i).filter g ∧ fs.length = n' ∧ OwnK wr W.heap.size (.slice A' n' c') fs ∧ Below W.heap.size W wr) (fun v u _ => m - (intOf u).toNat)
  case atStart => exact ⟨0, none, 0, 0, [], by omega, rfl, rfl, Nat.le_refl _, by rw [List.take_zero]; rfl, rfl, OwnK.nil _ _, Below.refl _ _⟩
  case round =>
    obtain ⟨i, A', n', c', fs, hi, rfl, rfl, hnc, hfs, hfl, hown, hbw⟩ := hrel
    have HNC := Lib.hid hnc
    have HFS := Lib.hid hfs
    have HFL := Lib.hid hfl
    have HO := Lib.hid hown
    have HBW := Lib.hid hbw
    have HD2 := Lib.hid (HD.out.below hbw)
    clear hnc hfs hfl hown hbw
    by_cases hlt : i < m
    rotate_left
    · have q6 : ¬ (i : Int) < (m : Int) := by omega
      have hend : fs = es.filter g := by rw [HFS.out, List.take_of_length_le (by rw [HD.out.keys.len]; omega)]
      have cl := HD2.out.l_
      have HE := Lib.hid hend
      clear hlt hi hend
      go_wp2_with fail
      go_ret
      refine ⟨A', n', c', fs, rfl, HNC.out, HO.out.less HB.out.size, HFL.out, by rw [HE.out], fun x hx => ?_, HB.out.trans (HBW.out.mono HB.out.size)⟩
      rw [HE.out] at hx
      exact HD2.out.ok x (List.mem_filter.1 hx).1
    have q6 : (i : Int) < (m : Int) := by omega
    obtain ⟨e, hei⟩ : ∃ e, es[i]? = some e := ⟨es[i]'(by rw [HD.out.keys.len]; omega), List.getElem?_eq_getElem _⟩
    obtain ⟨b, O, hA, hlo, hb, hcs⟩ := HD2.out.keys.at_ (by omega)
    have oe := HD.out.ok e (List.mem_of_getElem? hei)
    subst hA
    have KL := Lib.hid (fun w' (h : Gr wr w') => (HD2.out.below h).l_)
    have KP := Lib.hid (fun w' (h : Gr wr w') => (show w'.heap[bx]? = some (.cells CP 30 (0, 0)) from ((HBW.out.trans (Below.mono h HBW.out.size)).block _ (lt_of_row R.out)).trans R.out))
    have KC := Lib.hid (fun w' (h : Gr wr w') => (show ∀ j v, e.L[j]? = some v → w'.cell? ⟨b, O + i * 26 + j, none⟩ = some v from fun j v hv => (Below.cell h (p := ⟨b, O + i * 26 + j, none⟩) hb).trans (hcs i e hei j v hv)))
    have IX := Lib.hid (show (Try.prog.info? 41).map (·.size) = some e.L.length by rw [Ke.L_len oe]; exact rk_info)
    have SX := Lib.hid (show e.L.toArray.size = 26 by rw [List.size_toArray, Ke.L_len oe])
    have GV := Lib.hid (fun w' => (show Calls Try.prog 46 #[.agg e.L.toArray, .agg CP] w' (Ret w' (.bool (g e))) by rw [← HGV.out]; exact GOV.out e oe.ok w'))
    have HFT := Lib.hid (filter_take (g := g) hei)
    have ROW := Lib.hid (fun (w' : World) (g' lo : Nat) (h : w'.heap[g']? = some (.cells e.L.toArray 41 (0, 0))) (hlo : lo ≤ g') => (show RowK w' lo w'.heap.size (some ⟨g', 0, none⟩) 1 [e] from rowK1 h hlo))
    have L1 := Lib.hid (show ∀ x ∈ [e], x.L.length = 26 from fun x hx => by rw [List.mem_singleton.1 hx]; exact Ke.L_len oe)
    have L2 := Lib.hid (show ∀ x ∈ fs, x.L.length = 26 from fun x hx => by rw [HFS.out] at hx; exact HD.out.L26 x (List.mem_of_mem_take (List.mem_filter.1 hx).1))
    have LF := Lib.hid (show n' ≤ 32 by
      have h1 := List.length_filter_le g (es.take i)
      rw [← HFS.out, HFL.out, List.length_take, HD.out.keys.len] at h1
      have := HM.out
      omega)
    have I1 := Lib.hid q6
    have HI := Lib.hid hlt
    have cl := HD2.out.l_
    have wi : IntKind.i64.wrap ((i : Int) + 1) = (i : Int) + 1 := IntWalk.i64_in _ (by have := HM.out; omega)
    generalize hCX : e.L = CX at *
    generalize hgv : g e = gv at *
    clear hei hcs oe hlo hb hlt hi hCX
    go_upto_region 5 with fail
    clear cl
    refine with_act fun a0 ha0 => ?_
    have hl : frT.length = a0.tmps.size := by rw [ha0]; rfl
    have k0 : a0.tmps[0]?.getD undef = .pointer (some ⟨r, 0, none⟩) := by rw [ha0]; rfl
    have k3 : a0.tmps[3]?.getD undef = .pointer (some ⟨bx, 0, none⟩) := by rw [ha0]; rfl
    have k6 : a0.tmps[6]?.getD undef = .int .i64 i := by rw [ha0]; rfl
    refine wp_region_vals (by kernel_rfl) frT (by kernel_rfl) (by kernel_rfl) hl (fun i => a0.tmps[i + 16]?.getD undef) (by rw [ha0]; rfl) (Gr wr) (frV r b bx O m c i CX CP gv) (show Gr _ _ from (Below.refl _ _).drew) (frV.keep _ _ _ _ _ _ _ _ _ _) ⟨?_, ?_, ?_, ?_, ?_, ?_, ?_, ?_, ?_, trivial⟩ ?_
    · refine step_plain [] (by kernel_rfl) rfl fun us w' hG hV => ?_
      have o0 := (frame_old2 (us := us) (a := a0) (show (frT[0]?).join = none from rfl)).trans k0
      generalize frame frT a0 us = fr at *
      exact val_ok (v := .pointer (some ⟨r, 0, none⟩)) (w' := w') (by go_simp) hG (Below.refl _ _) rfl
    · refine step_plain [0] (by kernel_rfl) rfl fun us w' hG hV => ?_
      have e0 : us 0 = .pointer (some ⟨r, 0, none⟩) := hV 0 (by simp)
      have v0 := (frame_at2 (us := us) hl (show (frT[16]?).join = some 0 from rfl)).trans e0
      generalize frame frT a0 us = fr at *
      exact val_ok (v := .pointer (some ⟨r, 0, none⟩)) (w' := w') (by go_simp) hG (Below.refl _ _) rfl
    · refine step_plain [1] (by kernel_rfl) rfl fun us w' hG hV => ?_
      have e1 : us 1 = .pointer (some ⟨r, 0, none⟩) := hV 1 (by simp)
      have v1 := (frame_at2 (us := us) hl (show (frT[17]?).join = some 1 from rfl)).trans e1
      generalize frame frT a0 us = fr at *
      exact val_ok (v := .pointer (some ⟨r, 1, none⟩)) (w' := w') (by go_simp) hG (Below.refl _ _) rfl
    · refine step_plain [2] (by kernel_rfl) rfl fun us w' hG hV => ?_
      have e2 : us 2 = .pointer (some ⟨r, 1, none⟩) := hV 2 (by simp)
      have v2 := (frame_at2 (us := us) hl (show (frT[18]?).join = some 2 from rfl)).trans e2
      have hc := KL.out w' hG
      generalize frame frT a0 us = fr at *
      exact val_ok (v := .slice (some ⟨b, O, none⟩) m c) (w' := w') (by go_simp) hG (Below.refl _ _) rfl
    · refine step_plain [] (by kernel_rfl) rfl fun us w' hG hV => ?_
      have o6 := (frame_old2 (us := us) (a := a0) (show (frT[6]?).join = none from rfl)).trans k6
      generalize frame frT a0 us = fr at *
      exact val_ok (v := .int .i64 i) (w' := w') (by go_simp) hG (Below.refl _ _) rfl
    · refine step_plain [3, 4] (by kernel_rfl) rfl fun us w' hG hV => ?_
      have e3 : us 3 = .slice (some ⟨b, O, none⟩) m c := hV 3 (by simp)
      have v3 := (frame_at2 (us := us) hl (show (frT[19]?).join = some 3 from rfl)).trans e3
      have e4 : us 4 = .int .i64 i := hV 4 (by simp)
      have v4 := (frame_at2 (us := us) hl (show (frT[20]?).join = some 4 from rfl)).trans e4
      have hi := I1.out
      generalize frame frT a0 us = fr at *
      exact val_ok (v := .pointer (some ⟨b, O + i * 26, none⟩)) (w' := w') (by go_simp) hG (Below.refl _ _) rfl
    · refine step_plain [5] (by kernel_rfl) rfl fun us w' hG hV => ?_
      have e5 : us 5 = .pointer (some ⟨b, O + i * 26, none⟩) := hV 5 (by simp)
      have v5 := (frame_at2 (us := us) hl (show (frT[21]?).join = some 5 from rfl)).trans e5
      have hg1 := KC.out w' hG
      generalize frame frT a0 us = fr at *
      exact val_ok (v := .agg CX.toArray) (w' := w') (loadp_run (s := 21) rfl v5 CX _ hg1 Try.underlying41 rfl IX.out) hG (Below.refl _ _) rfl
    · refine step_plain [] (by kernel_rfl) rfl fun us w' hG hV => ?_
      have o3 := (frame_old2 (us := us) (a := a0) (show (frT[3]?).join = none from rfl)).trans k3
      have hg1 := (KP.out w' hG)
      generalize frame frT a0 us = fr at *
      exact load_ok 30 3 rfl (bx) o3 _ _ (0, 0) _ hg1 Try.underlying30 rfl IP.out hG rfl
    · refine step_plain [6, 7] (by kernel_rfl) rfl fun us w' hG hV => ?_
      have e6 : us 6 = .agg CX.toArray := hV 6 (by simp)
      have v6 := (frame_at2 (us := us) hl (show (frT[22]?).join = some 6 from rfl)).trans e6
      have e7 : us 7 = .agg CP := hV 7 (by simp)
      have v7 := (frame_at2 (us := us) hl (show (frT[23]?).join = some 7 from rfl)).trans e7
      generalize frame frT a0 us = fr at *
      exact call_ok (f := 46) (args := #[.agg CX.toArray, .agg CP]) (by go_simp) ((GV.out w').mono fun e w'' h => ⟨_, h.1, hG.below h.2, h.2, rfl⟩)
    · intro us wz hG hV
      have e8 : us 8 = .bool gv := hV 8 (by decide)
      subst ha0
      simp only [frame, frT, fill]
      rw [e8]
      have HG := Lib.hid (show Below wr.heap.size wr wz from hG)
      have cl := KL.out wz hG
      have CC := Lib.hid (KC.out wz hG)
      clear hV hl hG e8
      generalize us 0 = u0
      generalize us 1 = u1
      generalize us 2 = u2
      generalize us 3 = u3
      generalize us 4 = u4
      generalize us 5 = u5
      generalize us 6 = u6
      generalize us 7 = u7
      cases gv
      · have hfs2 : fs = (es.take (i + 1)).filter g := by rw [HFT.out, if_neg (by decide), List.append_nil]; exact HFS.out
        have HFS2 := Lib.hid hfs2
        clear hfs2 cl
        go_wp2_with fail
        go_roundw
        case rel => exact ⟨i + 1, A', n', c', fs, by have := HI.out; omega, by go_num, rfl, HNC.out, HFS2.out, HFL.out, HO.out.below HG.out, HBW.out.trans (HG.out.mono HBW.out.size)⟩
        case measure => have := HI.out; simp [intOf]; omega
      · have hfs2 : fs ++ [e] = (es.take (i + 1)).filter g := by rw [HFT.out, if_pos rfl, HFS.out]
        have HFS2 := Lib.hid hfs2
        have AB := Lib.hid (alloc_below wz (.cells CX.toArray 41))
        have RW := Lib.hid (ROW.out (wz.alloc (.cells CX.toArray 41)) wz.heap.size 0 (heap_alloc_new _ _) (Nat.zero_le _))
        have O2 := Lib.hid ((HO.out.below HG.out).below AB.out)
        have LB2 := Lib.hid (show W.heap.size ≤ (wz.alloc (.cells CX.toArray 41)).heap.size from Nat.le_trans (Nat.le_trans HBW.out.size HG.out.size) AB.out.size)
        clear hfs2
        go_wp2_with (first
          | (refine pkC.wpList_load_partG (by kernel_rfl) 41 (.tmp 31) rfl b (O + i * 26) (by kernel_rfl) CX _ CC.out Try.underlying41 rfl IX.out ?_)
          | (refine wpList_sliceKt rfl (.tmp 32) rfl CX.toArray rfl SX.out ?_)
          | (at_builtin
             (refine wpList_appK _ rfl (.tmp 25) (.tmp 33) rfl W.heap.size _ fs rfl O2.out L2.out _ _ _ 1 1 [e] rfl RW.out L1.out (by have := LF.out; have := HFL.out; omega) (by decide) LB2.out (n' + 1) (by rw [HFL.out]) ?_)
             intro A11 c11 W3 gl O3 B3 GR3
             have HC11 := Lib.hid gl
             have HO3 := Lib.hid O3
             have HB3 := Lib.hid B3
             clear gl O3 B3 GR3))
        go_roundw
        case rel => exact ⟨i + 1, A11, n' + 1, c11, fs ++ [e], by have := HI.out; omega, by go_num, rfl, HC11.out, HFS2.out, by rw [List.length_append, HFL.out]; rfl, HO3.out, ((HBW.out.trans (HG.out.mono HBW.out.size)).trans (AB.out.mono (Nat.le_trans HBW.out.size HG.out.size))).trans HB3.out⟩
        case measure => have := HI.out; simp [intOf]; omega
end Go.Proofs.Ytflfkhcbkhdahaa.mkC

/-
  Sends and Gets of the document's ring.
-/
namespace Go.Proofs.Ytflfkhcbkhdahaa.mkC
open Go.ChangeShapes Go.WideShapes Go.ChangeAt Go.RowKit
open Go.Proofs.Ytflfkhcbkhdahaa.memC Go.Proofs.Ytflfkhcbkhdahaa.genC Go.Proofs.Ytflfkhcbkhdahaa.butC Go.Proofs.Ytflfkhcbkhdahaa.freeC Go.Proofs.Ytflfkhcbkhdahaa.adC Go.Proofs.Ytflfkhcbkhdahaa.rtC
set_option linter.unusedVariables false
theorem sendP_eq (r : Rg) (p : Pr) (i : Int) : sendP r p i = pickP (forL r p) (fun x => decide (x.1.si = i)) 12 := rfl
theorem getsP_eq (r : Rg) (p : Pr) (i : Int) : getsP r p i = pickP (forL r p) (fun x => decide (x.1.ri = i)) 12 := rfl
set_option maxRecDepth 100000 in
set_option maxHeartbeats 4000000 in
theorem rsends_any (w : World) (r M : Nat) (rg : Rg) (p : Pr) (n : Int) (h : RgAt w r M rg) (hp : p.Ok) : Calls Try.prog 16 #[.pointer (some ⟨r, 0, none⟩), .agg (prV p), .int .u8 n] w (PickR w M (sendP rg p n)) := by
  have hzv := zeroRk
  rw [sendP_eq]
  obtain ⟨f, hf⟩ : ∃ f : Kp → Bool, f = fun x => decide (x.1.si = n) := ⟨_, rfl⟩
  rw [← hf]
  have HF := Lib.hid hf
  obtain ⟨O, hO⟩ : ∃ O, O = pickP (forL rg p) f 12 := ⟨_, rfl⟩
  rw [← hO]
  have HO := Lib.hid hO
  clear hO hf
  obtain ⟨ZV, hZV⟩ : ∃ Z, Z = ktV zKt none 0 0 := ⟨_, rfl⟩
  rw [← hZV] at hzv
  have BZ := Lib.hid (show Try.prog.built 41 [] = some ZV by rw [hZV]; exact built_zrk)
  have IZ := Lib.hid (show (Try.prog.info? 41).map (·.size) = some ZV.size by rw [hZV, zV_size]; exact rk_info)
  have OZ := Lib.hid (show ZV.all (·.oneCell') = true by rw [hZV]; exact kt_ones)
  have SZ := Lib.hid (show ZV.size = 26 by rw [hZV]; exact zV_size)
  have EZ := Lib.hid (show ZV = zKe.V by rw [hZV]; rfl)
  obtain ⟨W0, hW0⟩ : ∃ W, W = w.alloc (.cells (prV p) 30) := ⟨_, rfl⟩
  have z0 : W0.heap.size = w.heap.size + 1 := by rw [hW0, alloc_size]
  obtain ⟨W, hW⟩ : ∃ W, W = W0.alloc (.cells ZV 41) := ⟨_, rfl⟩
  obtain ⟨bx, hbx⟩ : ∃ b, b = w.heap.size := ⟨_, rfl⟩
  obtain ⟨bz, hbz⟩ : ∃ b, b = w.heap.size + 1 := ⟨_, rfl⟩
  have HB := Lib.hid (show Below w.heap.size w W by rw [hW, hW0]; exact ((Below.refl _ _).alloc (Nat.le_refl _) _).alloc (by simp) _)
  have RP := Lib.hid (show W.heap[bx]? = some (.cells (prV p) 30 (0, 0)) by rw [hW, hW0, hbx, Below.block (alloc_below _ _) _ (by rw [alloc_size]; omega)]; exact heap_alloc_new w _)
  have RZ := Lib.hid (show W.heap[bz]? = some (.cells ZV 41 (0, 0)) by rw [hW, hbz, ← z0]; exact heap_alloc_new _ _)
  have HBZ := Lib.hid (show w.heap.size ≤ bz by rw [hbz]; omega)
  have HMR := Lib.hid (show M ≤ w.heap.size by obtain ⟨A, m, c, es, hd⟩ := h; have := hd.mr; have := hd.lt; omega)
  have FR := Lib.hid (rfor_any W r M rg p (h.below HB.out) hp)
  have HL := Lib.hid (show (forL rg p).length ≤ 32 by
    obtain ⟨A, m, c, es, hd⟩ := h
    rw [forL_def]
    have h1 := List.length_filter_le (fun x : Kp => govB x.1 p) rg.l
    rw [← hd.val, List.length_map, hd.keys.len] at h1
    rw [← hd.val]
    have := hd.le
    omega)
  have IP := Lib.hid (prV_info hp)
  generalize prV p = CP at *
  generalize forL rg p = LL at *
  clear h hp hZV
  go_enter Try.func16, Try.ntmps16
  go_upto_region 1 with fail
  rw [← hW0]
  rw [← hW]
  try rw [z0]
  rw [← hbz]
  rw [← hbx]
  clear hW0 hW hbx hbz hzv z0
  go_upto_region 3 with (first
    | (refine wpList_load_row rfl 30 (.tmp 4) rfl bx rfl _ _ _ _ RP.out Try.underlying30 rfl IP.out ?_)
    | (go_at_call 25; refine FR.out.mono ?_; rintro e w2 ⟨A, m, c, es, rfl, hnc, hown, hlen, hval, hke, hbel⟩
       have HNC := Lib.hid hnc
       have HOW := Lib.hid hown
       have HLN := Lib.hid hlen
       have HVL := Lib.hid hval
       have HKE := Lib.hid hke
       have HB2 := Lib.hid hbel
       clear hnc hown hlen hval hke hbel))
  clear FR
  obtain ⟨A', c', hv', hn', hc', hkeys⟩ := HOW.out.form (fun e he => Ke.L_len (HKE.out e he))
  rw [HLN.out] at hv' hn' hkeys
  cases hv'
  have HKY := Lib.hid hkeys
  have HB3 := Lib.hid (HB.out.trans (HB2.out.mono HB.out.size))
  have R := Lib.hid (show w2.heap[bz]? = some (.cells ZV 41 (0, 0)) from (HB2.out.block _ (lt_of_row RZ.out)).trans RZ.out)
  have HM := Lib.hid (show m ≤ 32 by have h1 := HL.out; rw [← HVL.out, List.length_map, HLN.out] at h1; exact h1)
  have HO2 := Lib.hid (show O = ((pickE es f 12).1.val, (pickE es f 12).2) by rw [HO.out, ← HVL.out, pickE_val])
  have HCM := Lib.hid hc'
  clear hkeys hn' HO RZ HL HVL hc'
  go_loopw [9] (fun u wr => ∃ i : Nat, i ≤ m ∧ u = .int .i64 i ∧ w2 = wr ∧ ∀ x ∈ es.take i, f x.val = false) (fun u _ => m - (intOf u).toNat)
  case atStart => exact ⟨0, by omega, rfl, rfl, fun x hx => by rw [List.take_zero] at hx; cases hx⟩
  case round =>
    obtain ⟨i, hi, rfl, rfl, HN0⟩ := hrel
    have HN := Lib.hid HN0
    clear HN0
    by_cases hlt : i < m
    rotate_left
    · have q6 : ¬ (i : Int) < (m : Int) := by omega
      have hend := pickE_none (f := f) (es := es) (fun e he => HN.out e (by rw [List.take_of_length_le (by rw [HLN.out]; omega)]; exact he)) 12
      have HE := Lib.hid (show O = (zKe.val, 12) by rw [HO2.out, hend])
      clear hlt hi hend
      go_wp2_with (first
        | (refine adC.wpList_zero rfl 41 rfl ZV BZ.out ?_)
        | (refine wpList_store_row rfl 41 (.tmp 6) (.tmp 30) rfl bz ZV rfl rfl _ _ R.out IZ.out rfl OZ.out ?_))
      refine bodyPost_ret (v := .tuple #[.agg ZV, .int .i64 12]) (adC.results_cell_tmp Try.results16 _ _ bz _ _ _ _ _ (by rfl) (setRow_heap _ _ _ _ _ _ R.out) Try.underlying41 rfl IZ.out (by rfl)) rfl ?_
      exact ⟨zKe, zKe_at _ _, by rw [HE.out], by rw [HE.out, EZ.out], setR_belowM HB3.out HBZ.out _⟩
    have q6 : (i : Int) < (m : Int) := by omega
    obtain ⟨e, hei⟩ : ∃ e, es[i]? = some e := ⟨es[i]'(by rw [HLN.out]; omega), List.getElem?_eq_getElem _⟩
    obtain ⟨b, o, hA, hlo, hb, hcs⟩ := HKY.out.at_ (by omega)
    have oe := HKE.out e (List.mem_of_getElem? hei)
    have OE := Lib.hid oe
    have C1 := Lib.hid (hcs i e hei)
    have cn : w2.cell? ⟨b, o + i * 26 + 21, none⟩ = some (.int .u8 e.k.si) := C1.out 21 _ (kt_si oe.ok)
    have IS := Lib.hid (show (Try.prog.info? 41).map (·.size) = some e.L.length by rw [Ke.L_len oe]; exact rk_info)
    have IV := Lib.hid (show (Try.prog.info? 41).map (·.size) = some e.L.toArray.size by rw [List.size_toArray, Ke.L_len oe]; exact rk_info)
    have SV := Lib.hid (show ZV.size = e.L.toArray.size by rw [SZ.out, List.size_toArray, Ke.L_len oe])
    have OV := Lib.hid (show e.L.toArray.all (·.oneCell') = true from kt_ones)
    have HIT := Lib.hid (fun hf => pickE_hit (f := f) HN.out hei hf 12)
    have NO := Lib.hid (fun hf => take_no (f := f) HN.out hei hf)
    have hfe : f e.val = decide (e.k.si = n) := by rw [HF.out]; rfl
    subst hA
    have HI := Lib.hid hlt
    have wi : IntKind.i64.wrap ((i : Int) + 1) = (i : Int) + 1 := IntWalk.i64_in _ (by have := HM.out; omega)
    have EL := Lib.hid (show e.V = e.L.toArray from rfl)
    generalize hCS : e.L = CS at *
    generalize hen : e.k.si = en at *
    clear hei hcs oe hlo hb hlt hi hCS HF
    by_cases hq : en = n
    · subst hq
      have hh := HIT.out (by rw [hfe]; simp)
      have HE := Lib.hid (show O = (e.val, 0) by rw [HO2.out, hh])
      clear hh hfe hen
      go_wp2_with (first
        | (refine pkC.wpList_load_partG (by kernel_rfl) 41 (.tmp 28) rfl b (o + i * 26) (by kernel_rfl) CS _ C1.out Try.underlying41 rfl IS.out ?_)
        | (refine wpList_store_row rfl 41 (.tmp 6) (.tmp 29) rfl bz CS.toArray rfl rfl _ _ R.out IV.out SV.out OV.out ?_))
      refine bodyPost_ret (v := .tuple #[.agg CS.toArray, .int .i64 0]) (adC.results_cell_tmp Try.results16 _ _ bz _ _ _ _ _ (by rfl) (setRow_heap _ _ _ _ _ _ R.out) Try.underlying41 rfl IV.out (by rfl)) rfl ?_
      exact ⟨e, OE.out.below (setR_belowM (Below.refl M w2) (by have := HMR.out; have := HBZ.out; omega) _) (Nat.le_refl _), by rw [HE.out], by rw [HE.out, EL.out], setR_belowM HB3.out HBZ.out CS.toArray⟩
    · have hq2 : (en == n) = false := beq_eq_false_iff_ne.2 hq
      have hn := NO.out (by rw [hfe]; exact decide_eq_false hq)
      have HN2 := Lib.hid hn
      clear hn hq
      go_wp2_with fail
      go_roundw
      case rel => exact ⟨i + 1, by have := HI.out; omega, by go_num, (by first | rfl | trivial), HN2.out⟩
      case measure => have := HI.out; simp [intOf]; omega
set_option maxRecDepth 100000 in
set_option maxHeartbeats 4000000 in
theorem rgets_any (w : World) (r M : Nat) (rg : Rg) (p : Pr) (n : Int) (h : RgAt w r M rg) (hp : p.Ok) : Calls Try.prog 18 #[.pointer (some ⟨r, 0, none⟩), .agg (prV p), .int .u8 n] w (PickR w M (getsP rg p n)) := by
  have hzv := zeroRk
  rw [getsP_eq]
  obtain ⟨f, hf⟩ : ∃ f : Kp → Bool, f = fun x => decide (x.1.ri = n) := ⟨_, rfl⟩
  rw [← hf]
  have HF := Lib.hid hf
  obtain ⟨O, hO⟩ : ∃ O, O = pickP (forL rg p) f 12 := ⟨_, rfl⟩
  rw [← hO]
  have HO := Lib.hid hO
  clear hO hf
  obtain ⟨ZV, hZV⟩ : ∃ Z, Z = ktV zKt none 0 0 := ⟨_, rfl⟩
  rw [← hZV] at hzv
  have BZ := Lib.hid (show Try.prog.built 41 [] = some ZV by rw [hZV]; exact built_zrk)
  have IZ := Lib.hid (show (Try.prog.info? 41).map (·.size) = some ZV.size by rw [hZV, zV_size]; exact rk_info)
  have OZ := Lib.hid (show ZV.all (·.oneCell') = true by rw [hZV]; exact kt_ones)
  have SZ := Lib.hid (show ZV.size = 26 by rw [hZV]; exact zV_size)
  have EZ := Lib.hid (show ZV = zKe.V by rw [hZV]; rfl)
  obtain ⟨W0, hW0⟩ : ∃ W, W = w.alloc (.cells (prV p) 30) := ⟨_, rfl⟩
  have z0 : W0.heap.size = w.heap.size + 1 := by rw [hW0, alloc_size]
  obtain ⟨W, hW⟩ : ∃ W, W = W0.alloc (.cells ZV 41) := ⟨_, rfl⟩
  obtain ⟨bx, hbx⟩ : ∃ b, b = w.heap.size := ⟨_, rfl⟩
  obtain ⟨bz, hbz⟩ : ∃ b, b = w.heap.size + 1 := ⟨_, rfl⟩
  have HB := Lib.hid (show Below w.heap.size w W by rw [hW, hW0]; exact ((Below.refl _ _).alloc (Nat.le_refl _) _).alloc (by simp) _)
  have RP := Lib.hid (show W.heap[bx]? = some (.cells (prV p) 30 (0, 0)) by rw [hW, hW0, hbx, Below.block (alloc_below _ _) _ (by rw [alloc_size]; omega)]; exact heap_alloc_new w _)
  have RZ := Lib.hid (show W.heap[bz]? = some (.cells ZV 41 (0, 0)) by rw [hW, hbz, ← z0]; exact heap_alloc_new _ _)
  have HBZ := Lib.hid (show w.heap.size ≤ bz by rw [hbz]; omega)
  have HMR := Lib.hid (show M ≤ w.heap.size by obtain ⟨A, m, c, es, hd⟩ := h; have := hd.mr; have := hd.lt; omega)
  have FR := Lib.hid (rfor_any W r M rg p (h.below HB.out) hp)
  have HL := Lib.hid (show (forL rg p).length ≤ 32 by
    obtain ⟨A, m, c, es, hd⟩ := h
    rw [forL_def]
    have h1 := List.length_filter_le (fun x : Kp => govB x.1 p) rg.l
    rw [← hd.val, List.length_map, hd.keys.len] at h1
    rw [← hd.val]
    have := hd.le
    omega)
  have IP := Lib.hid (prV_info hp)
  generalize prV p = CP at *
  generalize forL rg p = LL at *
  clear h hp hZV
  go_enter Try.func18, Try.ntmps18
  go_upto_region 1 with fail
  rw [← hW0]
  rw [← hW]
  try rw [z0]
  rw [← hbz]
  rw [← hbx]
  clear hW0 hW hbx hbz hzv z0
  go_upto_region 3 with (first
    | (refine wpList_load_row rfl 30 (.tmp 4) rfl bx rfl _ _ _ _ RP.out Try.underlying30 rfl IP.out ?_)
    | (go_at_call 25; refine FR.out.mono ?_; rintro e w2 ⟨A, m, c, es, rfl, hnc, hown, hlen, hval, hke, hbel⟩
       have HNC := Lib.hid hnc
       have HOW := Lib.hid hown
       have HLN := Lib.hid hlen
       have HVL := Lib.hid hval
       have HKE := Lib.hid hke
       have HB2 := Lib.hid hbel
       clear hnc hown hlen hval hke hbel))
  clear FR
  obtain ⟨A', c', hv', hn', hc', hkeys⟩ := HOW.out.form (fun e he => Ke.L_len (HKE.out e he))
  rw [HLN.out] at hv' hn' hkeys
  cases hv'
  have HKY := Lib.hid hkeys
  have HB3 := Lib.hid (HB.out.trans (HB2.out.mono HB.out.size))
  have R := Lib.hid (show w2.heap[bz]? = some (.cells ZV 41 (0, 0)) from (HB2.out.block _ (lt_of_row RZ.out)).trans RZ.out)
  have HM := Lib.hid (show m ≤ 32 by have h1 := HL.out; rw [← HVL.out, List.length_map, HLN.out] at h1; exact h1)
  have HO2 := Lib.hid (show O = ((pickE es f 12).1.val, (pickE es f 12).2) by rw [HO.out, ← HVL.out, pickE_val])
  have HCM := Lib.hid hc'
  clear hkeys hn' HO RZ HL HVL hc'
  go_loopw [9] (fun u wr => ∃ i : Nat, i ≤ m ∧ u = .int .i64 i ∧ w2 = wr ∧ ∀ x ∈ es.take i, f x.val = false) (fun u _ => m - (intOf u).toNat)
  case atStart => exact ⟨0, by omega, rfl, rfl, fun x hx => by rw [List.take_zero] at hx; cases hx⟩
  case round =>
    obtain ⟨i, hi, rfl, rfl, HN0⟩ := hrel
    have HN := Lib.hid HN0
    clear HN0
    by_cases hlt : i < m
    rotate_left
    · have q6 : ¬ (i : Int) < (m : Int) := by omega
      have hend := pickE_none (f := f) (es := es) (fun e he => HN.out e (by rw [List.take_of_length_le (by rw [HLN.out]; omega)]; exact he)) 12
      have HE := Lib.hid (show O = (zKe.val, 12) by rw [HO2.out, hend])
      clear hlt hi hend
      go_wp2_with (first
        | (refine adC.wpList_zero rfl 41 rfl ZV BZ.out ?_)
        | (refine wpList_store_row rfl 41 (.tmp 6) (.tmp 30) rfl bz ZV rfl rfl _ _ R.out IZ.out rfl OZ.out ?_))
      refine bodyPost_ret (v := .tuple #[.agg ZV, .int .i64 12]) (adC.results_cell_tmp Try.results18 _ _ bz _ _ _ _ _ (by rfl) (setRow_heap _ _ _ _ _ _ R.out) Try.underlying41 rfl IZ.out (by rfl)) rfl ?_
      exact ⟨zKe, zKe_at _ _, by rw [HE.out], by rw [HE.out, EZ.out], setR_belowM HB3.out HBZ.out _⟩
    have q6 : (i : Int) < (m : Int) := by omega
    obtain ⟨e, hei⟩ : ∃ e, es[i]? = some e := ⟨es[i]'(by rw [HLN.out]; omega), List.getElem?_eq_getElem _⟩
    obtain ⟨b, o, hA, hlo, hb, hcs⟩ := HKY.out.at_ (by omega)
    have oe := HKE.out e (List.mem_of_getElem? hei)
    have OE := Lib.hid oe
    have C1 := Lib.hid (hcs i e hei)
    have cn : w2.cell? ⟨b, o + i * 26 + 22, none⟩ = some (.int .u8 e.k.ri) := C1.out 22 _ (kt_ri oe.ok)
    have IS := Lib.hid (show (Try.prog.info? 41).map (·.size) = some e.L.length by rw [Ke.L_len oe]; exact rk_info)
    have IV := Lib.hid (show (Try.prog.info? 41).map (·.size) = some e.L.toArray.size by rw [List.size_toArray, Ke.L_len oe]; exact rk_info)
    have SV := Lib.hid (show ZV.size = e.L.toArray.size by rw [SZ.out, List.size_toArray, Ke.L_len oe])
    have OV := Lib.hid (show e.L.toArray.all (·.oneCell') = true from kt_ones)
    have HIT := Lib.hid (fun hf => pickE_hit (f := f) HN.out hei hf 12)
    have NO := Lib.hid (fun hf => take_no (f := f) HN.out hei hf)
    have hfe : f e.val = decide (e.k.ri = n) := by rw [HF.out]; rfl
    subst hA
    have HI := Lib.hid hlt
    have wi : IntKind.i64.wrap ((i : Int) + 1) = (i : Int) + 1 := IntWalk.i64_in _ (by have := HM.out; omega)
    have EL := Lib.hid (show e.V = e.L.toArray from rfl)
    generalize hCS : e.L = CS at *
    generalize hen : e.k.ri = en at *
    clear hei hcs oe hlo hb hlt hi hCS HF
    by_cases hq : en = n
    · subst hq
      have hh := HIT.out (by rw [hfe]; simp)
      have HE := Lib.hid (show O = (e.val, 0) by rw [HO2.out, hh])
      clear hh hfe hen
      go_wp2_with (first
        | (refine pkC.wpList_load_partG (by kernel_rfl) 41 (.tmp 28) rfl b (o + i * 26) (by kernel_rfl) CS _ C1.out Try.underlying41 rfl IS.out ?_)
        | (refine wpList_store_row rfl 41 (.tmp 6) (.tmp 29) rfl bz CS.toArray rfl rfl _ _ R.out IV.out SV.out OV.out ?_))
      refine bodyPost_ret (v := .tuple #[.agg CS.toArray, .int .i64 0]) (adC.results_cell_tmp Try.results18 _ _ bz _ _ _ _ _ (by rfl) (setRow_heap _ _ _ _ _ _ R.out) Try.underlying41 rfl IV.out (by rfl)) rfl ?_
      exact ⟨e, OE.out.below (setR_belowM (Below.refl M w2) (by have := HMR.out; have := HBZ.out; omega) _) (Nat.le_refl _), by rw [HE.out], by rw [HE.out, EL.out], setR_belowM HB3.out HBZ.out CS.toArray⟩
    · have hq2 : (en == n) = false := beq_eq_false_iff_ne.2 hq
      have hn := NO.out (by rw [hfe]; exact decide_eq_false hq)
      have HN2 := Lib.hid hn
      clear hn hq
      go_wp2_with fail
      go_roundw
      case rel => exact ⟨i + 1, by have := HI.out; omega, by go_num, (by first | rfl | trivial), HN2.out⟩
      case measure => have := HI.out; simp [intOf]; omega
end Go.Proofs.Ytflfkhcbkhdahaa.mkC

/-
  SameAll, by the document.
-/
namespace Go.Proofs.Ytflfkhcbkhdahaa.mkC
open Go.ChangeShapes Go.WideShapes Go.ChangeAt Go.RowKit
open Go.Proofs.Ytflfkhcbkhdahaa.memC Go.Proofs.Ytflfkhcbkhdahaa.genC Go.Proofs.Ytflfkhcbkhdahaa.butC Go.Proofs.Ytflfkhcbkhdahaa.freeC Go.Proofs.Ytflfkhcbkhdahaa.adC Go.Proofs.Ytflfkhcbkhdahaa.rtC
set_option linter.unusedVariables false
instance : DecidableEq Kt := fun a b => decidable_of_iff (sameKt a b = true) sameKt_iff
theorem take_map {es fs : List Ke} {i : Nat} {e f : Ke} (h : (es.take i).map Ke.val = (fs.take i).map Ke.val) (he : es[i]? = some e) (hf : fs[i]? = some f) (hv : e.val = f.val) : (es.take (i + 1)).map Ke.val = (fs.take (i + 1)).map Ke.val := by
  rw [List.take_add_one, List.take_add_one, he, hf, List.map_append, List.map_append, h]
  simp [hv]
theorem map_ne {es fs : List Ke} {i : Nat} {e f : Ke} (he : es[i]? = some e) (hf : fs[i]? = some f) (hv : e.val ≠ f.val) : es.map Ke.val ≠ fs.map Ke.val := fun h => by
  have h2 := congrArg (fun l => l[i]?) h
  simp only [List.getElem?_map, he, hf, Option.map_some] at h2
  injection h2 with h2
  exact hv h2
theorem sameV {e f : Ke} : sameB e.k e.m f.k f.m = decide (e.val = f.val) := by
  cases h : sameB e.k e.m f.k f.m
  · symm; exact decide_eq_false fun hv => by
      have : sameB e.k e.m f.k f.m = true := sameB_iff.2 ⟨(Prod.mk.inj hv).1, (Prod.mk.inj hv).2⟩
      rw [h] at this; cases this
  · symm; obtain ⟨h1, h2⟩ := sameB_iff.1 h
    exact decide_eq_true (show (e.k, e.m) = (f.k, f.m) by rw [h1, h2])
def saV (b O b2 O2 : Nat) (m c m2 c2 kx : Nat) (CX CY : List Value) (sv : Bool) : Nat → Value → World → Prop
  | 0, v, _ => v = .slice (some ⟨b, O, none⟩) m c
  | 1, v, _ => v = .int .i64 kx
  | 2, v, _ => v = .pointer (some ⟨b, O + kx * 26, none⟩)
  | 3, v, _ => v = .agg CX.toArray
  | 4, v, _ => v = .slice (some ⟨b2, O2, none⟩) m2 c2
  | 5, v, _ => v = .int .i64 kx
  | 6, v, _ => v = .pointer (some ⟨b2, O2 + kx * 26, none⟩)
  | 7, v, _ => v = .agg CY.toArray
  | 8, v, _ => v = .bool sv
  | 9, v, _ => v = .bool (!sv)
  | _, _, _ => True
theorem saV.keep (b O b2 O2 : Nat) (m c m2 c2 kx : Nat) (CX CY : List Value) (sv : Bool) (i : Nat) (v : Value) (w w' : World) (hb : Below w.heap.size w w') (h : saV b O b2 O2 m c m2 c2 kx CX CY sv i v w) : saV b O b2 O2 m c m2 c2 kx CX CY sv i v w' := by
  unfold saV at h ⊢
  split at h <;> exact h
def saT : List (Option Nat) := [none, none, none, none, none, none, none, none, none, none, none, none, none, none, none, none, none, some 0, some 1, some 2, some 3, some 4, some 5, some 6, some 7, some 8, some 9]
set_option maxRecDepth 100000 in
set_option maxHeartbeats 4000000 in
theorem rsameall_any (w : World) (lo1 lo2 : Nat) (A : Option Addr) (m c : Nat) (es : List Ke) (B : Option Addr) (m2 c2 : Nat) (fs : List Ke) (h1 : RowK w lo1 w.heap.size A m es) (h2 : RowK w lo2 w.heap.size B m2 fs) (k1 : ∀ e ∈ es, KeAt w w.heap.size e) (k2 : ∀ e ∈ fs, KeAt w w.heap.size e) (hm : m ≤ 1000000) (hm2 : m2 ≤ 1000000) :
    Calls Try.prog 21 #[.slice A m c, .slice B m2 c2] w (Ret w (.bool (decide (es.map Ke.val = fs.map Ke.val)))) := by
  obtain ⟨V, hV⟩ : ∃ V, V = decide (es.map Ke.val = fs.map Ke.val) := ⟨_, rfl⟩
  rw [← hV]
  have HV := Lib.hid hV
  have H1 := Lib.hid h1
  have H2 := Lib.hid h2
  have K1 := Lib.hid k1
  have K2 := Lib.hid k2
  have L1 := Lib.hid h1.len
  have L2 := Lib.hid h2.len
  have HM := Lib.hid hm
  have HM2 := Lib.hid hm2
  clear h1 h2 k1 k2 hV hm hm2
  by_cases hq : m = m2
  rotate_left
  · have q : ((m : Int) == (m2 : Int)) = false := beq_eq_false_iff_ne.2 (by omega)
    have hv := Lib.hid (show V = false by rw [HV.out]; exact decide_eq_false fun h => hq (by have := congrArg List.length h; rw [List.length_map, List.length_map, L1.out, L2.out] at this; exact this))
    clear hq
    go_enter Try.func21, Try.ntmps21
    go_wp2_with fail
    go_ret
    exact ⟨ret_bool hv.out.symm, Below.refl _ _⟩
  subst hq
  go_enter Try.func21, Try.ntmps21
  go_upto_region 4 with fail
  go_loopw [5] (fun u wr => ∃ i : Nat, i ≤ m ∧ u = .int .i64 i ∧ (es.take i).map Ke.val = (fs.take i).map Ke.val ∧ Below w.heap.size w wr) (fun u _ => m - (intOf u).toNat)
  case atStart => exact ⟨0, by omega, rfl, by rw [List.take_zero, List.take_zero], Below.refl _ _⟩
  case round =>
    obtain ⟨i, hi, rfl, hsame, hbw⟩ := hrel
    have HS := Lib.hid hsame
    have HBW := Lib.hid hbw
    clear hsame
    by_cases hlt : i < m
    rotate_left
    · have q6 : ¬ (i : Int) < (m : Int) := by omega
      have hv := Lib.hid (show V = true by
        rw [HV.out]
        have h1 := HS.out
        rw [List.take_of_length_le (by rw [L1.out]; omega), List.take_of_length_le (by rw [L2.out]; omega)] at h1
        exact decide_eq_true h1)
      clear hlt hi hbw
      go_wp2_with fail
      go_ret
      exact ⟨ret_bool hv.out.symm, HBW.out⟩
    have q6 : (i : Int) < (m : Int) := by omega
    obtain ⟨e, hei⟩ : ∃ e, es[i]? = some e := ⟨es[i]'(by rw [L1.out]; omega), List.getElem?_eq_getElem _⟩
    obtain ⟨f, hfi⟩ : ∃ f, fs[i]? = some f := ⟨fs[i]'(by rw [L2.out]; omega), List.getElem?_eq_getElem _⟩
    obtain ⟨b, O, hA, -, hb, hcs⟩ := (H1.out.below hbw hbw.size).at_ (by omega)
    obtain ⟨b2, O2, hA2, -, hb2, hcs2⟩ := (H2.out.below hbw hbw.size).at_ (by omega)
    subst hA
    subst hA2
    have oe := K1.out e (List.mem_of_getElem? hei)
    have of := K2.out f (List.mem_of_getElem? hfi)
    have KX := Lib.hid (fun w' (h : Gr wr w') => (show ∀ j v, e.L[j]? = some v → w'.cell? ⟨b, O + i * 26 + j, none⟩ = some v from fun j v hv => (Below.cell h (p := ⟨b, O + i * 26 + j, none⟩) hb).trans (hcs i e hei j v hv)))
    have KY := Lib.hid (fun w' (h : Gr wr w') => (show ∀ j v, f.L[j]? = some v → w'.cell? ⟨b2, O2 + i * 26 + j, none⟩ = some v from fun j v hv => (Below.cell h (p := ⟨b2, O2 + i * 26 + j, none⟩) hb2).trans (hcs2 i f hfi j v hv)))
    have IX := Lib.hid (show (Try.prog.info? 41).map (·.size) = some e.L.length by rw [Ke.L_len oe]; exact rk_info)
    have IY := Lib.hid (show (Try.prog.info? 41).map (·.size) = some f.L.length by rw [Ke.L_len of]; exact rk_info)
    have SM := Lib.hid (fun w' (h : Gr wr w') => (show Calls Try.prog 42 #[.agg e.L.toArray, .agg f.L.toArray] w' (Ret w' (.bool (sameB e.k e.m f.k f.m))) from
      rsame_any e.k f.k e.A f.A e.n e.c f.n f.c e.m f.m w' oe.ok of.ok ((oe.below (hbw.trans (Below.mono h hbw.size)) (Nat.le_trans hbw.size (Below.size h))).nums) ((of.below (hbw.trans (Below.mono h hbw.size)) (Nat.le_trans hbw.size (Below.size h))).nums) oe.byte of.byte))
    have YES := Lib.hid (fun hv => take_map HS.out hei hfi hv)
    have NO := Lib.hid (fun hv => map_ne hei hfi hv)
    have SV := Lib.hid (sameV (e := e) (f := f))
    have I1 := Lib.hid q6
    have I2 := Lib.hid q6
    have HI := Lib.hid hlt
    have wi : IntKind.i64.wrap ((i : Int) + 1) = (i : Int) + 1 := IntWalk.i64_in _ (by have := HM.out; omega)
    generalize hCX : e.L = CX at *
    generalize hCY : f.L = CY at *
    generalize sameB e.k e.m f.k f.m = sv at *
    clear hei hfi hcs hcs2 oe of hb hb2 hlt hi hCX hCY hbw
    go_upto_region 6 with fail
    refine with_act fun a0 ha0 => ?_
    have hl : saT.length = a0.tmps.size := by rw [ha0]; rfl
    have k0 : a0.tmps[0]?.getD undef = .slice (some ⟨b, O, none⟩) m c := by rw [ha0]; rfl
    have k1 : a0.tmps[1]?.getD undef = .slice (some ⟨b2, O2, none⟩) m c2 := by rw [ha0]; rfl
    have k5 : a0.tmps[5]?.getD undef = .int .i64 i := by rw [ha0]; rfl
    refine wp_region_vals (by kernel_rfl) saT (by kernel_rfl) (by kernel_rfl) hl (fun i => a0.tmps[i + 17]?.getD undef) (by rw [ha0]; rfl) (Gr wr) (saV b O b2 O2 m c m c2 i CX CY sv) (show Gr _ _ from (Below.refl _ _).drew) (saV.keep _ _ _ _ _ _ _ _ _ _ _ _) ⟨?_, ?_, ?_, ?_, ?_, ?_, ?_, ?_, ?_, ?_, trivial⟩ ?_
    · refine step_plain [] (by kernel_rfl) rfl fun us w' hG hV => ?_
      have o0 := (frame_old2 (us := us) (a := a0) (show (saT[0]?).join = none from rfl)).trans k0
      generalize frame saT a0 us = fr at *
      exact val_ok (v := .slice (some ⟨b, O, none⟩) m c) (w' := w') (by go_simp) hG (Below.refl _ _) rfl
    · refine step_plain [] (by kernel_rfl) rfl fun us w' hG hV => ?_
      have o5 := (frame_old2 (us := us) (a := a0) (show (saT[5]?).join = none from rfl)).trans k5
      generalize frame saT a0 us = fr at *
      exact val_ok (v := .int .i64 i) (w' := w') (by go_simp) hG (Below.refl _ _) rfl
    · refine step_plain [0, 1] (by kernel_rfl) rfl fun us w' hG hV => ?_
      have e0 : us 0 = .slice (some ⟨b, O, none⟩) m c := hV 0 (by simp)
      have v0 := (frame_at2 (us := us) hl (show (saT[17]?).join = some 0 from rfl)).trans e0
      have e1 : us 1 = .int .i64 i := hV 1 (by simp)
      have v1 := (frame_at2 (us := us) hl (show (saT[18]?).join = some 1 from rfl)).trans e1
      have hi := I1.out
      generalize frame saT a0 us = fr at *
      exact val_ok (v := .pointer (some ⟨b, O + i * 26, none⟩)) (w' := w') (by go_simp) hG (Below.refl _ _) rfl
    · refine step_plain [2] (by kernel_rfl) rfl fun us w' hG hV => ?_
      have e2 : us 2 = .pointer (some ⟨b, O + i * 26, none⟩) := hV 2 (by simp)
      have v2 := (frame_at2 (us := us) hl (show (saT[19]?).join = some 2 from rfl)).trans e2
      have hg1 := KX.out w' hG
      generalize frame saT a0 us = fr at *
      exact val_ok (v := .agg CX.toArray) (w' := w') (loadp_run (s := 19) rfl v2 CX _ hg1 Try.underlying41 rfl IX.out) hG (Below.refl _ _) rfl
    · refine step_plain [] (by kernel_rfl) rfl fun us w' hG hV => ?_
      have o1 := (frame_old2 (us := us) (a := a0) (show (saT[1]?).join = none from rfl)).trans k1
      generalize frame saT a0 us = fr at *
      exact val_ok (v := .slice (some ⟨b2, O2, none⟩) m c2) (w' := w') (by go_simp) hG (Below.refl _ _) rfl
    · refine step_plain [] (by kernel_rfl) rfl fun us w' hG hV => ?_
      have o5 := (frame_old2 (us := us) (a := a0) (show (saT[5]?).join = none from rfl)).trans k5
      generalize frame saT a0 us = fr at *
      exact val_ok (v := .int .i64 i) (w' := w') (by go_simp) hG (Below.refl _ _) rfl
    · refine step_plain [4, 5] (by kernel_rfl) rfl fun us w' hG hV => ?_
      have e4 : us 4 = .slice (some ⟨b2, O2, none⟩) m c2 := hV 4 (by simp)
      have v4 := (frame_at2 (us := us) hl (show (saT[21]?).join = some 4 from rfl)).trans e4
      have e5 : us 5 = .int .i64 i := hV 5 (by simp)
      have v5 := (frame_at2 (us := us) hl (show (saT[22]?).join = some 5 from rfl)).trans e5
      have hi := I2.out
      generalize frame saT a0 us = fr at *
      exact val_ok (v := .pointer (some ⟨b2, O2 + i * 26, none⟩)) (w' := w') (by go_simp) hG (Below.refl _ _) rfl
    · refine step_plain [6] (by kernel_rfl) rfl fun us w' hG hV => ?_
      have e6 : us 6 = .pointer (some ⟨b2, O2 + i * 26, none⟩) := hV 6 (by simp)
      have v6 := (frame_at2 (us := us) hl (show (saT[23]?).join = some 6 from rfl)).trans e6
      have hg1 := KY.out w' hG
      generalize frame saT a0 us = fr at *
      exact val_ok (v := .agg CY.toArray) (w' := w') (loadp_run (s := 23) rfl v6 CY _ hg1 Try.underlying41 rfl IY.out) hG (Below.refl _ _) rfl
    · refine step_plain [3, 7] (by kernel_rfl) rfl fun us w' hG hV => ?_
      have e3 : us 3 = .agg CX.toArray := hV 3 (by simp)
      have v3 := (frame_at2 (us := us) hl (show (saT[20]?).join = some 3 from rfl)).trans e3
      have e7 : us 7 = .agg CY.toArray := hV 7 (by simp)
      have v7 := (frame_at2 (us := us) hl (show (saT[24]?).join = some 7 from rfl)).trans e7
      generalize frame saT a0 us = fr at *
      exact call_ok (f := 42) (args := #[.agg CX.toArray, .agg CY.toArray]) (by go_simp) ((SM.out w' hG).mono fun e w'' h => ⟨_, h.1, hG.below h.2, h.2, rfl⟩)
    · refine step_plain [8] (by kernel_rfl) rfl fun us w' hG hV => ?_
      have e8 : us 8 = .bool sv := hV 8 (by simp)
      have v8 := (frame_at2 (us := us) hl (show (saT[25]?).join = some 8 from rfl)).trans e8
      generalize frame saT a0 us = fr at *
      exact val_ok (v := .bool (!sv)) (w' := w') (by go_simp) hG (Below.refl _ _) rfl
    · intro us wz hG hV
      have e9 : us 9 = .bool (!sv) := hV 9 (by decide)
      subst ha0
      simp only [frame, saT, fill]
      rw [e9]
      have HG := Lib.hid (show Below wr.heap.size wr wz from hG)
      clear hV hl hG e9
      cases sv
      · have hne : e.val ≠ f.val := by have := SV.out; exact of_decide_eq_false this.symm
        have hv := Lib.hid (show V = false by rw [HV.out]; exact decide_eq_false (NO.out hne))
        clear hne
        go_wp2_with fail
        go_ret
        exact ⟨ret_bool hv.out.symm, HBW.out.trans (HG.out.mono HBW.out.size)⟩
      · have heq : e.val = f.val := of_decide_eq_true SV.out.symm
        have HS2 := Lib.hid (YES.out heq)
        clear heq
        go_wp2_with fail
        go_roundw
        case rel => exact ⟨i + 1, by have := HI.out; omega, by go_num, HS2.out, HBW.out.trans (HG.out.mono HBW.out.size)⟩
        case measure => have := HI.out; simp [intOf]; omega
end Go.Proofs.Ytflfkhcbkhdahaa.mkC

/-
  append as an operation of a region that draws its order; literals of numbers.
-/
namespace Go.Proofs.Ytflfkhcbkhdahaa.freeC
open Go.ChangeShapes Go.WideShapes Go.ChangeAt Go.RowKit
open Go.Proofs.Ytflfkhcbkhdahaa.memC
set_option linter.unusedVariables false
/-- append(own, numbers...) as an operation of a region that draws its order; the operands as they are -/
theorem append_Jo {P : Program} {Q : Exit → Act → World → Prop} {R : Value → World → Prop} {fr : Act} {o : Oper} {w : World} {kd : IntKind} (s x : Operand) (t : TypeId) (ho : o.op = .call { callee := .builtin .append, args := #[s, x], argTypes := #[t, t] })
    (e : TypeId) (i : TypeInfo) (z : Value) (bytes : Nat) (ht : P.underlying t = some (.slice e)) (hi : P.info? e = some i) (hz : i.zero = some z)
    (hsize : i.size = 1) (hby : i.bytes = bytes) (hzs : z.cells.size = 1) (base : Nat) (v : Value) (xs : List Int) (hs : fr.eval s = v) (hown : Own kd e w base v xs)
    (B : Nat) (A : Option Addr) (m c : Nat) (news : List Int) (hx : fr.eval x = .slice A m c) (hr : Nums kd w B A m news) (h63 : xs.length + m ≤ maxLen) (hbytes : (xs.length + m) * bytes ≤ 140737488355328) (hbase : base ≤ w.heap.size) (L : Nat) (hL : xs.length + m = L)
    (h : ∀ A' c' w', L ≤ c' → c' ≤ maxLen → Own kd e w' base (.slice A' L c') (xs ++ news) → Below base w w' → R (.slice A' L c') w') : o.wp P fr w (fun a' w' => ∃ v, a' = fr.put o.dst v ∧ R v w') Q := by
  obtain ⟨v', w', hrun, h2, h3⟩ := run_app (P := P) w t o.type e i z bytes ht hi hz hsize hby hzs base v xs hown B A m c news hr h63 hbytes hbase
  have e : (xs ++ news).length = L := by rw [List.length_append, hr.len]; exact hL
  obtain ⟨A', c', e2, g1, g2, N⟩ := h2.form
  rw [e] at e2 g1 N
  subst e2
  unfold Oper.wp execOp
  simp only [ho, resolve, invoke, builtin, Sem.run_bind, Sem.run_pure, Result.andThen_ok, List.map_toArray, List.map_cons, List.map_nil, hs, hx, hrun]
  exact ⟨_, rfl, h A' c' w' g1 g2 h2 (grown_below h3 hbase fun g hg => (hown.blk g hg).1)⟩
theorem eval_tmp {fr : Act} {s : Nat} {v : Value} (h : fr.tmps[s]?.getD undef = v) : fr.eval (.tmp s) = v := by simpa only [Act.eval, Array.getD_eq_getD_getElem?] using h
/-- a literal of numbers, just laid -/
theorem lit_nums (k : IntKind) (w : World) (xs : List Int) (T : TypeId) (C : Array Value) (hC : C = (xs.map (Value.int k)).toArray) (n : Nat) (hn : xs.length = n) :
    Nums k (w.alloc (.cells C T)) (w.heap.size + 1) (some ⟨w.heap.size, 0, none⟩) n xs := by
  subst hC
  refine ⟨hn, fun _ => ⟨_, 0, rfl, Nat.lt_succ_self _, fun i hi => ?_⟩⟩
  have hi2 : i < xs.length := by omega
  rw [cell_of_row _ w.heap.size (0 + i) _ _ (0, 0) (heap_alloc_new w _)]
  simp [List.getD_eq_getElem?_getD, hi2]
end Go.Proofs.Ytflfkhcbkhdahaa.freeC
