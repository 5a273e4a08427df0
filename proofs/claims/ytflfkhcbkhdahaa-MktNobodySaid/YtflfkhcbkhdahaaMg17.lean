/-
  4 texts of a proof, joined.
-/
import Derived.Test.YtflfkhcbkhdahaaMg16
import Derived.Test.YtflfkhcbkhdahaaMg3

/-
  A region that draws its order: a ring's row is made anew by two appends, and stored.
-/
namespace Go.Proofs.Ytflfkhcbkhdahaa.mkC
open Go.ChangeShapes Go.WideShapes Go.ChangeAt Go.RowKit
open Go.Proofs.Ytflfkhcbkhdahaa.memC Go.Proofs.Ytflfkhcbkhdahaa.genC Go.Proofs.Ytflfkhcbkhdahaa.butC Go.Proofs.Ytflfkhcbkhdahaa.freeC Go.Proofs.Ytflfkhcbkhdahaa.adC Go.Proofs.Ytflfkhcbkhdahaa.rtC
set_option linter.unusedVariables false
/-- na: append(nil, ..); nb: append(.., ..); nd: a literal of one key tuple, or none; ns: the store, the last operation -/
structure ApJ (W : World) (r na nb nd ns : Nat) (V : Nat → Value) (E1 E2 : List Ke) (ed : Ke) (m : Nat → Bool) (us : Nat → Value) (w : World) : Prop where
  bel : m ns = false → Below W.heap.size W w
  val : ∀ i, m i = true → i ≠ na → i ≠ nb → i ≠ nd → i ≠ ns → us i = V i
  a1 : m na = true → m nb = false → OwnK w W.heap.size (us na) E1
  a2 : m nb = true → m ns = false → OwnK w W.heap.size (us nb) E2
  d : m nd = true → m nb = false → ∃ g, us nd = .slice (some ⟨g, 0, none⟩) 1 1 ∧ RowK w 0 w.heap.size (some ⟨g, 0, none⟩) 1 [ed]
  o1 : m ns = true → ∀ i, i < ns → i + 2 ≠ ns → m i = true
  o2 : m nb = true → m na = true ∧ (nd < ns → m nd = true)
  fin : m ns = true → ∃ w1, Below W.heap.size W w1 ∧ OwnK w1 W.heap.size (us nb) E2 ∧ w = w1.setCell ⟨r, 1, none⟩ (us nb)
section
variable {W w w' : World} {r na nb nd ns : Nat} {V : Nat → Value} {E1 E2 : List Ke} {ed : Ke} {m : Nat → Bool} {us : Nat → Value}
theorem ApJ.start (h : Below W.heap.size W w) : ApJ W r na nb nd ns V E1 E2 ed (fun _ => false) us w :=
  ⟨fun _ => h, (fun i h => by cases h), (fun h => by cases h), (fun h => by cases h), (fun h => by cases h), (fun h => by cases h), (fun h => by cases h), (fun h => by cases h)⟩
theorem ApJ.open_ (h : ApJ W r na nb nd ns V E1 E2 ed m us w) {i : Nat} (hi : i < ns) (hx : i + 2 ≠ ns) (hm : m i = false) : m ns = false := by
  cases e : m ns with
  | false => rfl
  | true => have := h.o1 e i hi hx; rw [hm] at this; cases this
theorem ApJ.late (h : ApJ W r na nb nd ns V E1 E2 ed m us w) (hm : m na = false) : m nb = false := by
  cases e : m nb with
  | false => rfl
  | true => have := (h.o2 e).1; rw [hm] at this; cases this
theorem ApJ.late2 (h : ApJ W r na nb nd ns V E1 E2 ed m us w) (hn : nd < ns) (hm : m nd = false) : m nb = false := by
  cases e : m nb with
  | false => rfl
  | true => have := (h.o2 e).2 hn; rw [hm] at this; cases this
theorem ApJ.val_ (h : ApJ W r na nb nd ns V E1 E2 ed m us w) (i : Nat) (hi : i < ns) (hm : m i = false) (h1 : i ≠ na) (h2 : i ≠ nb) (h3 : i ≠ nd) (v : Value) (hv : v = V i) : ApJ W r na nb nd ns V E1 E2 ed (upd m i true) (upd us i v) w := by
  have h4 : i ≠ ns := by omega
  refine ⟨?_, fun j hj n1 n2 n3 n4 => ?_, ?_, ?_, ?_, ?_, ?_, ?_⟩
  · rw [upd_other m true (Ne.symm h4)]; exact h.bel
  · by_cases e : j = i
    · subst e; rw [upd_same]; exact hv
    · rw [upd_other us v e]
      rw [upd_other m true e] at hj
      exact h.val j hj n1 n2 n3 n4
  · rw [upd_other m true (Ne.symm h1), upd_other m true (Ne.symm h2), upd_other us v (Ne.symm h1)]; exact h.a1
  · rw [upd_other m true (Ne.symm h2), upd_other m true (Ne.symm h4), upd_other us v (Ne.symm h2)]; exact h.a2
  · rw [upd_other m true (Ne.symm h3), upd_other m true (Ne.symm h2), upd_other us v (Ne.symm h3)]; exact h.d
  · rw [upd_other m true (Ne.symm h4)]
    intro e j hj hx
    by_cases e2 : j = i
    · rw [e2, upd_same]
    · rw [upd_other m true e2]; exact h.o1 e j hj hx
  · rw [upd_other m true (Ne.symm h1), upd_other m true (Ne.symm h2), upd_other m true (Ne.symm h3)]; exact h.o2
  · rw [upd_other m true (Ne.symm h4), upd_other us v (Ne.symm h2)]; exact h.fin
theorem ApJ.one (h : ApJ W r na nb nd ns V E1 E2 ed m us w) (hi : na + 2 < ns) (hm : m na = false) (hab : na ≠ nb) (had : na ≠ nd) {v : Value} (ho : OwnK w' W.heap.size v E1) (hb : Below w.heap.size w w') : ApJ W r na nb nd ns V E1 E2 ed (upd m na true) (upd us na v) w' := by
  have h4 : na ≠ ns := by omega
  have hs := h.open_ (by omega) (by omega) hm
  have hl := h.late hm
  refine ⟨fun _ => (h.bel hs).trans (hb.mono (h.bel hs).size), fun j hj n1 n2 n3 n4 => ?_, fun _ _ => ?_, ?_, ?_, ?_, ?_, ?_⟩
  · rw [upd_other us v n1]
    rw [upd_other m true n1] at hj
    exact h.val j hj n1 n2 n3 n4
  · rw [upd_same]; exact ho
  · rw [upd_other m true (Ne.symm hab)]; intro e; rw [hl] at e; cases e
  · rw [upd_other m true (Ne.symm had), upd_other m true (Ne.symm hab), upd_other us v (Ne.symm had)]
    intro e1 e2
    obtain ⟨g, e3, hr⟩ := h.d e1 e2
    exact ⟨g, e3, hr.below hb hb.size⟩
  · rw [upd_other m true (Ne.symm h4)]; intro e; rw [hs] at e; cases e
  · rw [upd_other m true (Ne.symm hab)]; intro e; rw [hl] at e; cases e
  · rw [upd_other m true (Ne.symm h4)]; intro e; rw [hs] at e; cases e
theorem ApJ.lit (h : ApJ W r na nb nd ns V E1 E2 ed m us w) (hi : nd + 2 < ns) (hm : m nd = false) (had : nd ≠ na) (hbd : nd ≠ nb) {g : Nat} (hr : RowK w' 0 w'.heap.size (some ⟨g, 0, none⟩) 1 [ed]) (hb : Below w.heap.size w w') : ApJ W r na nb nd ns V E1 E2 ed (upd m nd true) (upd us nd (.slice (some ⟨g, 0, none⟩) 1 1)) w' := by
  have h4 : nd ≠ ns := by omega
  have hs := h.open_ (by omega) (by omega) hm
  have hl := h.late2 (by omega) hm
  refine ⟨fun _ => (h.bel hs).trans (hb.mono (h.bel hs).size), fun j hj n1 n2 n3 n4 => ?_, ?_, ?_, fun _ _ => ⟨g, upd_same _ _ _, hr⟩, ?_, ?_, ?_⟩
  · rw [upd_other us _ n3]
    rw [upd_other m true n3] at hj
    exact h.val j hj n1 n2 n3 n4
  · rw [upd_other m true (Ne.symm had), upd_other m true (Ne.symm hbd), upd_other us _ (Ne.symm had)]
    intro e1 e2
    exact (h.a1 e1 e2).below hb
  · rw [upd_other m true (Ne.symm hbd)]; intro e; rw [hl] at e; cases e
  · rw [upd_other m true (Ne.symm h4)]; intro e; rw [hs] at e; cases e
  · rw [upd_other m true (Ne.symm hbd)]; intro e; rw [hl] at e; cases e
  · rw [upd_other m true (Ne.symm h4)]; intro e; rw [hs] at e; cases e
theorem ApJ.two (h : ApJ W r na nb nd ns V E1 E2 ed m us w) (hi : nb + 2 < ns) (hm : m nb = false) (hma : m na = true) (hmd : nd < ns → m nd = true) (hab : na ≠ nb) (hbd : nb ≠ nd) {v : Value} (ho : OwnK w' W.heap.size v E2) (hb : Below W.heap.size w w') : ApJ W r na nb nd ns V E1 E2 ed (upd m nb true) (upd us nb v) w' := by
  have h4 : nb ≠ ns := by omega
  have hs := h.open_ (by omega) (by omega) hm
  refine ⟨fun _ => (h.bel hs).trans hb, fun j hj n1 n2 n3 n4 => ?_, ?_, fun _ _ => ?_, ?_, ?_, fun _ => ?_, ?_⟩
  · rw [upd_other us v n2]
    rw [upd_other m true n2] at hj
    exact h.val j hj n1 n2 n3 n4
  · rw [upd_same]; intro _ e; cases e
  · rw [upd_same]; exact ho
  · rw [upd_same]; intro _ e; cases e
  · rw [upd_other m true (Ne.symm h4)]; intro e; rw [hs] at e; cases e
  · rw [upd_other m true hab, upd_other m true (Ne.symm hbd)]; exact ⟨hma, hmd⟩
  · rw [upd_other m true (Ne.symm h4)]; intro e; rw [hs] at e; cases e
theorem ApJ.sto (h : ApJ W r na nb nd ns V E1 E2 ed m us w) (hm : m ns = false) (hall : ∀ i, i < ns → i + 2 ≠ ns → m i = true) (hna : na + 2 < ns) (hb : nb + 2 < ns) (hnd : nd < ns → nd + 2 < ns) (v : Value) (hv : v = us nb) : ApJ W r na nb nd ns V E1 E2 ed (upd m ns true) (upd us ns undef) (w.setCell ⟨r, 1, none⟩ v) := by
  have hbn := hall nb (by omega) (by omega)
  refine ⟨(fun e => by rw [upd_same] at e; cases e), fun j hj n1 n2 n3 n4 => ?_, ?_, (fun _ e => by rw [upd_same] at e; cases e), ?_, fun _ i hi hx => ?_, fun _ => ?_, fun _ => ⟨w, h.bel hm, ?_, ?_⟩⟩
  · rw [upd_other us _ n4]
    rw [upd_other m true n4] at hj
    exact h.val j hj n1 n2 n3 n4
  · rw [upd_other m true (show nb ≠ ns by omega), hbn]; intro _ e; cases e
  · rw [upd_other m true (show nb ≠ ns by omega), hbn]; intro _ e; cases e
  · rw [upd_other m true (show i ≠ ns by omega)]; exact hall i hi hx
  · have h2 := h.o2 hbn
    refine ⟨?_, fun e => ?_⟩
    · by_cases e : na = ns
      · rw [e, upd_same]
      · rw [upd_other m true e]; exact h2.1
    · rw [upd_other m true (show nd ≠ ns by omega)]; exact h2.2 e
  · rw [upd_other us _ (show nb ≠ ns by omega)]; exact h.a2 hbn hm
  · rw [upd_other us _ (show nb ≠ ns by omega), hv]
end
/-- append in a region that draws its order -/
theorem appK_J {R : Value → World → Prop} {fr : Act} {o : Oper} {w : World} {Q : Exit → Act → World → Prop} (s x : Operand) (ho : o.op = .call { callee := .builtin .append, args := #[s, x], argTypes := #[33, 33] }) (base : Nat) (v : Value) (es : List Ke) (hs : fr.eval s = v) (hown : OwnK w base v es)
    (lo B : Nat) (A : Option Addr) (m c : Nat) (fs : List Ke) (hx : fr.eval x = .slice A m c) (hr : RowK w lo B A m fs) (hok : ∀ e ∈ fs, e.L.length = 26) (hl : es.length + m ≤ 1000000) (hA : m = 0 → A = none ∨ ∃ b o, A = some ⟨b, o, none⟩) (hbase : base ≤ w.heap.size)
    (h : ∀ v' w', OwnK w' base v' (es ++ fs) → w.grownBy w' v.ownBlock → R v' w') : o.wp Try.prog fr w (fun a' w' => ∃ v, a' = fr.put o.dst v ∧ R v w') Q := by
  obtain ⟨v', w', hrun, h2, h3⟩ := run_appK w base v es hown o.type lo B A m c fs hr hok hl hA hbase
  unfold Oper.wp execOp
  simp only [ho, resolve, invoke, builtin, Sem.run_bind, Sem.run_pure, Result.andThen_ok, List.map_toArray, List.map_cons, List.map_nil, hs, hx, hrun]
  exact ⟨v', rfl, h v' w' h2 h3⟩
theorem ev_tmpM {fr : Act} {s : Tmp} {v : Value} (h : fr.tmps[s]?.getD undef = v) : fr.eval (.tmp s) = v := by simpa only [Act.eval, Array.getD_eq_getD_getElem?] using h
/-- a ring, and where its row may lie -/
def RgF (w : World) (r M : Nat) (rg : Rg) (P : Nat → Prop) : Prop := ∃ A n c es, RgD w r M A n c es rg ∧ (0 < n → ∀ b o, A = some ⟨b, o, none⟩ → P b)
theorem RgF.at_ {w : World} {r M : Nat} {rg : Rg} {P : Nat → Prop} (h : RgF w r M rg P) : RgAt w r M rg := by
  obtain ⟨A, n, c, es, hd, -⟩ := h
  exact ⟨A, n, c, es, hd⟩
theorem RgF.below {w w' : World} {r M : Nat} {rg : Rg} {P : Nat → Prop} (h : RgF w r M rg P) (hb : Below w.heap.size w w') : RgF w' r M rg P := by
  obtain ⟨A, n, c, es, hd, hp⟩ := h
  exact ⟨A, n, c, es, hd.below hb, hp⟩
/-- a ring behind such a region -/
theorem ring_sto {w w1 W : World} {r M : Nat} {A : Option Addr} {n c : Nat} {es fs : List Ke} {rg : Rg} {v : Value} {P : Nat → Prop} (hP : ∀ b, W.heap.size ≤ b → P b) (h : RgD W r M A n c es rg) (hb : Below W.heap.size W w1) (ho : OwnK w1 W.heap.size v fs) (hw : w = w1.setCell ⟨r, 1, none⟩ v) (hk : ∀ e ∈ fs, KeAt W M e) (hl : fs.length ≤ 32) :
    RgF w r M ⟨rg.last, fs.map Ke.val⟩ P ∧ But r W w := by
  have hd := h.below hb
  obtain ⟨A', c', hv, h1, h2, hr⟩ := ho.form (fun e he => Ke.L_len (hk e he))
  have hbt : But r W w := by rw [hw]; exact (But.below hb).setCell 1 v
  have hbt1 : But r w1 w := by rw [hw]; exact (But.refl w1).setCell 1 v
  have hrow := hd.row
  refine ⟨⟨A', fs.length, c', fs, ⟨?_, ?_, fun e he => ?_, rfl, h1, ?_, hl, h.mr, h.l0, h.l1, fun h0 => ?_⟩, fun _ b o e => ?_⟩, hbt⟩
  · rw [hw, ← hv]
    have := heap_setCell_same w1 r 1 _ _ v hrow
    simpa using this
  · exact (hr.less (show r + 1 ≤ W.heap.size from h.lt)).but hbt1 (Nat.lt_succ_self r)
  · refine ⟨(hk e he).ok, ?_, (hk e he).byte, (hk e he).cap, (hk e he).max⟩
    have hM : M ≤ r := h.mr
    exact (hk e he).nums.below (hbt.to_below hM (by have := h.lt; omega))
  · unfold maxLen at h2; omega
  · rw [h0] at hv hr
    rcases ho.2 with ⟨e, -⟩ | ⟨g, cap, cur, e, -⟩
    · rw [e] at hv; injection hv with hv; exact .inl hv.symm
    · rw [e] at hv; injection hv with hv; exact .inr ⟨g, 0, hv.symm⟩
  · rcases ho.2 with ⟨e9, -⟩ | ⟨g, cap, cur, e9, hg, -⟩
    · rw [e9] at hv; injection hv with hv; rw [e] at hv; cases hv
    · rw [e9] at hv; injection hv with hv; rw [e] at hv; injection hv with hv; injection hv with hv
      rw [← hv]; exact hP g hg
end Go.Proofs.Ytflfkhcbkhdahaa.mkC

/-
  Reslices of a row of key tuples.
-/
namespace Go.Proofs.Ytflfkhcbkhdahaa.mkC
open Go.ChangeShapes Go.WideShapes Go.ChangeAt Go.RowKit
open Go.Proofs.Ytflfkhcbkhdahaa.memC Go.Proofs.Ytflfkhcbkhdahaa.genC Go.Proofs.Ytflfkhcbkhdahaa.butC Go.Proofs.Ytflfkhcbkhdahaa.freeC Go.Proofs.Ytflfkhcbkhdahaa.adC Go.Proofs.Ytflfkhcbkhdahaa.rtC
set_option linter.unusedVariables false
theorem elemK : Try.prog.elem 33 = 41 := by unfold Program.elem; rw [Try.underlying33]
theorem undK : Try.prog.underlying 33 = some (.slice (Try.prog.elem 33)) := by rw [elemK]; exact Try.underlying33
theorem sizeK (w : World) : (sizeOf (Try.prog.elem 33)).run Try.prog w = .ok 26 w := by
  rw [elemK]
  obtain ⟨i, hi, hs⟩ := Option.map_eq_some_iff.1 rk_info
  simp [sizeOf, typeInfo, hi, hs]
theorem run_upK {fr : Act} {o : Oper} {w : World} {s x : Tmp} {b O m c i : Nat} (ho : o.op = .slice 33 (.tmp s) none (some (.tmp x)) none) (hs : fr.tmps[s]?.getD undef = .slice (some ⟨b, O, none⟩) m c) (hx : fr.tmps[x]?.getD undef = .int .i64 i) (hi : i ≤ c) :
    (execOp fr.eval o).run Try.prog w = .ok (.value (.slice (some ⟨b, O, none⟩) i c)) w := by
  unfold execOp
  simp only [ho, Option.map_some, Option.map_none, ev_tmpM hs, ev_tmpM hx, run_sliceAt_slice w 33 _ _ _ _ undK, run_slice_h w 33 _ m c undK .i64 (i : Int) (by omega) (by omega), sizeK, Sem.run_bind, Sem.run_pure, Result.andThen_ok]
  have e : sliced (some (⟨b, O, none⟩ : Addr)) 0 ((i : Int).toNat) c 26 = .slice (some ⟨b, O, none⟩) i c := by
    unfold sliced
    have h2 : (if c = 0 then some (⟨b, O, none⟩ : Addr) else (some (⟨b, O, none⟩ : Addr)).map (·.add (0 * 26))) = some ⟨b, O, none⟩ := by
      split
      · rfl
      · simp [memC.add_plain]
    rw [h2]
    simp
  rw [e]
theorem run_downK {fr : Act} {o : Oper} {w : World} {s x : Tmp} {b O m c i : Nat} (ho : o.op = .slice 33 (.tmp s) (some (.tmp x)) none none) (hs : fr.tmps[s]?.getD undef = .slice (some ⟨b, O, none⟩) m c) (hx : fr.tmps[x]?.getD undef = .int .i64 i) (hi : i ≤ m) (hc : m ≤ c) :
    (execOp fr.eval o).run Try.prog w = .ok (.value (.slice (some (if c = i then ⟨b, O, none⟩ else ⟨b, O + i * 26, none⟩)) (m - i) (c - i))) w := by
  unfold execOp
  simp only [ho, Option.map_some, Option.map_none, ev_tmpM hs, ev_tmpM hx, run_sliceAt_slice w 33 _ _ _ _ undK, run_slice_l w 33 _ m c undK .i64 (i : Int) (by omega) (by omega), sizeK, Sem.run_bind, Sem.run_pure, Result.andThen_ok]
  have e : sliced (some (⟨b, O, none⟩ : Addr)) ((i : Int).toNat) m c 26 = .slice (some (if c = i then ⟨b, O, none⟩ else ⟨b, O + i * 26, none⟩)) (m - i) (c - i) := by
    unfold sliced
    rw [Int.toNat_natCast]
    have h2 : (if c = i then some (⟨b, O, none⟩ : Addr) else (some (⟨b, O, none⟩ : Addr)).map (·.add (i * 26))) = some (if c = i then ⟨b, O, none⟩ else ⟨b, O + i * 26, none⟩) := by
      split
      · rfl
      · simp [memC.add_plain]
    rw [h2]
  rw [e]
theorem RowK.downK {w : World} {lo B b O m c i : Nat} {es : List Ke} (h : RowK w lo B (some ⟨b, O, none⟩) m es) (hi : i ≤ m) (hc : m ≤ c) : RowK w lo B (some (if c = i then ⟨b, O, none⟩ else ⟨b, O + i * 26, none⟩)) (m - i) (es.drop i) := by
  by_cases e : c = i
  · have h0 : m - i = 0 := by omega
    exact ⟨by rw [List.length_drop, h.len], fun hn => by omega⟩
  · rw [if_neg e]
    exact h.drop hi
theorem plainK (b O c i : Nat) : (some (if c = i then ⟨b, O, none⟩ else ⟨b, O + i * 26, none⟩) : Option Addr) = none ∨ ∃ b' o', (some (if c = i then ⟨b, O, none⟩ else ⟨b, O + i * 26, none⟩) : Option Addr) = some ⟨b', o', none⟩ := by
  split
  · exact .inr ⟨b, O, rfl⟩
  · exact .inr ⟨b, O + i * 26, rfl⟩
/-! ### what is dropped -/
theorem dropL_no {n : Int} : ∀ {l : List Kp}, (∀ x ∈ l, x.1.n ≠ n) → dropL n l = l
  | [], _ => rfl
  | x :: l, h => by
    unfold dropL
    rw [if_neg (h x (by simp)), dropL_no fun y hy => h y (by simp [hy])]
theorem dropL_hit {n : Int} : ∀ {l : List Kp} {i : Nat} {x : Kp}, (∀ y ∈ l.take i, y.1.n ≠ n) → l[i]? = some x → x.1.n = n → dropL n l = l.take i ++ l.drop (i + 1)
  | [], i, x, _, hx, _ => by cases hx
  | y :: l, 0, x, _, hx, hn => by
    simp at hx; subst hx
    unfold dropL
    rw [if_pos hn]; rfl
  | y :: l, i + 1, x, h, hx, hn => by
    unfold dropL
    rw [if_neg (h y (by simp)), dropL_hit (l := l) (i := i) (x := x) (fun z hz => h z (by simp [hz])) (by simpa using hx) hn]
    rfl
theorem dropE_hit {n : Int} {es : List Ke} {i : Nat} {e : Ke} (h : ∀ x ∈ es.take i, (decide (x.val.1.n = n)) = false) (he : es[i]? = some e) (hn : e.k.n = n) : dropL n (es.map Ke.val) = (es.take i ++ es.drop (i + 1)).map Ke.val := by
  rw [dropL_hit (i := i) (x := e.val) (fun y hy => ?_) (by rw [List.getElem?_map, he]; rfl) hn]
  · rw [List.map_append, List.map_take, List.map_drop]
  · rw [← List.map_take] at hy
    obtain ⟨x, hx, rfl⟩ := List.mem_map.1 hy
    exact of_decide_eq_false (h x hx)
theorem hasN_yes {rg : Rg} {n : Int} {es : List Ke} {i : Nat} {e : Ke} (hv : es.map Ke.val = rg.l) (he : es[i]? = some e) (hn : e.k.n = n) : hasN rg n = true := by
  unfold hasN
  rw [← hv]
  exact List.any_eq_true.2 ⟨e.val, List.mem_map.2 ⟨e, List.mem_of_getElem? he, rfl⟩, decide_eq_true hn⟩
theorem hasN_no {rg : Rg} {n : Int} {es : List Ke} (hv : es.map Ke.val = rg.l) (h : ∀ x ∈ es, (decide (x.val.1.n = n)) = false) : hasN rg n = false ∧ dropR rg n = rg := by
  constructor
  · unfold hasN
    rw [← hv]
    exact List.any_eq_false.2 fun x hx => by
      obtain ⟨e, he, rfl⟩ := List.mem_map.1 hx
      rw [h e he]; decide
  · unfold dropR
    rw [dropL_no]
    rw [← hv]
    intro x hx
    obtain ⟨e, he, rfl⟩ := List.mem_map.1 hx
    exact of_decide_eq_false (h e he)
end Go.Proofs.Ytflfkhcbkhdahaa.mkC

/-
  Drop of the document's ring.
-/
namespace Go.Proofs.Ytflfkhcbkhdahaa.mkC
open Go.ChangeShapes Go.WideShapes Go.ChangeAt Go.RowKit
open Go.Proofs.Ytflfkhcbkhdahaa.memC Go.Proofs.Ytflfkhcbkhdahaa.genC Go.Proofs.Ytflfkhcbkhdahaa.butC Go.Proofs.Ytflfkhcbkhdahaa.freeC Go.Proofs.Ytflfkhcbkhdahaa.adC Go.Proofs.Ytflfkhcbkhdahaa.rtC
set_option linter.unusedVariables false
/-- an error's number, and the ring behind the call -/
def DropR (w : World) (r M : Nat) (P : Nat → Prop) (er : Int) (rg : Rg) (e : Ending) (w' : World) : Prop := e = .returned (.int .i64 er) ∧ RgF w' r M rg P ∧ But r w w'
def dpV (r b O m c kx : Nat) : Nat → Value
  | 0 => .pointer (some ⟨r, 0, none⟩)
  | 1 => .pointer (some ⟨r, 0, none⟩)
  | 2 => .pointer (some ⟨r, 0, none⟩)
  | 3 => .pointer (some ⟨r, 1, none⟩)
  | 4 => .slice (some ⟨b, O, none⟩) m c
  | 5 => .int .i64 kx
  | 6 => .slice (some ⟨b, O, none⟩) kx c
  | 8 => .pointer (some ⟨r, 0, none⟩)
  | 9 => .pointer (some ⟨r, 0, none⟩)
  | 10 => .pointer (some ⟨r, 1, none⟩)
  | 11 => .slice (some ⟨b, O, none⟩) m c
  | 12 => .int .i64 kx
  | 13 => .int .i64 (kx + 1 : Nat)
  | 14 => .slice (some (if c = kx + 1 then ⟨b, O, none⟩ else ⟨b, O + (kx + 1) * 26, none⟩)) (m - (kx + 1)) (c - (kx + 1))
  | 16 => .pointer (some ⟨r, 0, none⟩)
  | 17 => .pointer (some ⟨r, 1, none⟩)
  | _ => undef
def dpT : List (Option Nat) := [none, none, none, none, none, none, none, none, none, none, none, none, none, none, none, none, none, none, none, none, none, none, none, none, none, some 0, some 1, some 2, some 3, some 4, some 5, some 6, some 7, some 8, some 9, some 10, some 11, some 12, some 13, some 14, some 15, some 16, some 17]
set_option maxRecDepth 100000 in
set_option maxHeartbeats 4000000 in
theorem rdrop_any (w : World) (r M : Nat) (rg : Rg) (n : Int) (P : Nat → Prop) (hP : ∀ b, w.heap.size ≤ b → P b) (h : RgF w r M rg P) : Calls Try.prog 11 #[.pointer (some ⟨r, 0, none⟩), .int .i64 n] w (DropR w r M P (dropErr rg n) (dropR rg n)) := by
  obtain ⟨A, m, c, es, hd, hap⟩ := h
  have HAP := Lib.hid hap
  have HPN := Lib.hid hP
  clear hap hP
  have HD := Lib.hid hd
  have HM := Lib.hid hd.le
  have HNC := Lib.hid hd.nc
  have HCM := Lib.hid hd.cm
  have LL := Lib.hid hd.keys.len
  have c1 := hd.l_
  obtain ⟨er, her⟩ : ∃ er, er = dropErr rg n := ⟨_, rfl⟩
  obtain ⟨rg', hrg⟩ : ∃ q, q = dropR rg n := ⟨_, rfl⟩
  rw [← her, ← hrg]
  have HER := Lib.hid her
  have HRG := Lib.hid hrg
  clear hd her hrg
  go_enter Try.func11, Try.ntmps11
  go_upto_region 2 with fail
  go_loopw [5] (fun u wr => ∃ i : Nat, i ≤ m ∧ u = .int .i64 i ∧ w = wr ∧ ∀ x ∈ es.take i, (decide (x.val.1.n = n)) = false) (fun u _ => m - (intOf u).toNat)
  case atStart => exact ⟨0, by omega, rfl, rfl, fun x hx => by rw [List.take_zero] at hx; cases hx⟩
  case round =>
    obtain ⟨i, hi, rfl, rfl, HN0⟩ := hrel
    have HN := Lib.hid HN0
    clear HN0
    by_cases hlt : i < m
    rotate_left
    · have q6 : ¬ (i : Int) < (m : Int) := by omega
      have hno := hasN_no (n := n) HD.out.val (fun x hx => HN.out x (by rw [List.take_of_length_le (by rw [LL.out]; omega)]; exact hx))
      have HE := Lib.hid (show er = 6 by rw [HER.out]; unfold dropErr; rw [hno.1]; rfl)
      have HR := Lib.hid (show rg' = rg by rw [HRG.out]; exact hno.2)
      clear hlt hi hno
      go_wp2_with fail
      go_ret
      exact ⟨by first | (rw [HE.out]; done) | (rw [HE.out]; rfl), by rw [HR.out]; exact ⟨A, m, c, es, HD.out, HAP.out⟩, But.refl _⟩
    have q6 : (i : Int) < (m : Int) := by omega
    obtain ⟨e, hei⟩ : ∃ e, es[i]? = some e := ⟨es[i]'(by rw [LL.out]; omega), List.getElem?_eq_getElem _⟩
    obtain ⟨b, O, hA, hlo, hb, hcs⟩ := HD.out.keys.at_ (by omega)
    have cn : w.cell? ⟨b, O + i * 26, none⟩ = some (.int .i64 e.k.n) := hcs i e hei 0 _ kt_n
    have NO := Lib.hid (fun hf => take_no (f := fun x => decide (x.1.n = n)) HN.out hei hf)
    have HIT := Lib.hid (fun hn : e.k.n = n => dropE_hit HN.out hei hn)
    have HAS := Lib.hid (fun hn : e.k.n = n => hasN_yes (n := n) HD.out.val hei hn)
    have NV := Lib.hid (show e.val.1.n = e.k.n from rfl)
    subst hA
    have HROW := Lib.hid HD.out.keys
    have HI := Lib.hid hlt
    have wi : IntKind.i64.wrap ((i : Int) + 1) = (i : Int) + 1 := IntWalk.i64_in _ (by have := HM.out; omega)
    generalize hen : e.k.n = en at *
    clear hei hcs hlo hb hlt hi
    by_cases hq : en = n
    · have hq2 : (en == n) = true := beq_iff_eq.2 hq
      have HE := Lib.hid (show er = 0 by rw [HER.out]; unfold dropErr; rw [HAS.out hq]; rfl)
      have HR := Lib.hid (show rg' = ⟨rg.last, (es.take i ++ es.drop (i + 1)).map Ke.val⟩ by rw [HRG.out]; unfold dropR; rw [← HD.out.val, HIT.out hq])
      have HKC := Lib.hid (show i ≤ c by have := HI.out; have := HNC.out; omega)
      have HKM := Lib.hid (show i ≤ m by have := HI.out; omega)
      have HK1 := Lib.hid (show i + 1 ≤ m by have := HI.out; omega)
      have WI := Lib.hid wi
      have TK := Lib.hid (show ∀ e ∈ es.take i, e.L.length = 26 from fun e he => HD.out.L26 e (List.mem_of_mem_take he))
      have DK := Lib.hid (show ∀ e ∈ es.drop (i + 1), e.L.length = 26 from fun e he => HD.out.L26 e (List.mem_of_mem_drop he))
      have E2K := Lib.hid (show ∀ e ∈ es.take i ++ es.drop (i + 1), KeAt w M e from fun e he => HD.out.ok e (by rcases List.mem_append.1 he with h | h; exact List.mem_of_mem_take h; exact List.mem_of_mem_drop h))
      have E2L := Lib.hid (show ∀ e ∈ es.take i ++ es.drop (i + 1), e.L.length = 26 from fun e he => Ke.L_len (E2K.out e he))
      have E2N := Lib.hid (show (es.take i ++ es.drop (i + 1)).length ≤ 32 by rw [List.length_append, List.length_take, List.length_drop, LL.out]; have := HM.out; have := HI.out; omega)
      clear hq
      go_upto_region 5 with fail
      clear cn q6 wi hq2
      refine with_act fun a0 ha0 => ?_
      have hl : dpT.length = a0.tmps.size := by rw [ha0]; rfl
      have k0 : a0.tmps[0]?.getD undef = .pointer (some ⟨r, 0, none⟩) := by rw [ha0]; rfl
      have k5 : a0.tmps[5]?.getD undef = .int .i64 i := by rw [ha0]; rfl
      refine wp_region_J (by kernel_rfl) dpT (by kernel_rfl) (by kernel_rfl) hl (fun i => a0.tmps[i + 25]?.getD undef) (by rw [ha0]; rfl) (ApJ w r 7 15 1000 18 (dpV r b O m c i) (es.take i) (es.take i ++ es.drop (i + 1)) zKe) (ApJ.start (Below.refl _ _).drew) ⟨?_, ?_, ?_, ?_, ?_, ?_, ?_, ?_, ?_, ?_, ?_, ?_, ?_, ?_, ?_, ?_, ?_, ?_, ?_, trivial⟩ ?_
      · refine stepJ [] (by kernel_rfl) rfl fun mm us w' hJ hmi hm => ?_
        have hs := hJ.open_ (i := 0) (by decide) (by decide) hmi
        have hB := hJ.bel hs
        have o0 := (frame_old2 (us := us) (a := a0) (show (dpT[0]?).join = none from rfl)).trans k0
        generalize frame dpT a0 us = fr at *
        exact val_J (v := .pointer (some ⟨r, 0, none⟩)) (w' := w') (by go_simp) (hJ.val_ 0 (by decide) hmi (by decide) (by decide) (by decide) _ rfl)
      · refine stepJ [] (by kernel_rfl) rfl fun mm us w' hJ hmi hm => ?_
        have hs := hJ.open_ (i := 1) (by decide) (by decide) hmi
        have hB := hJ.bel hs
        have o0 := (frame_old2 (us := us) (a := a0) (show (dpT[0]?).join = none from rfl)).trans k0
        generalize frame dpT a0 us = fr at *
        exact val_J (v := .pointer (some ⟨r, 0, none⟩)) (w' := w') (by go_simp) (hJ.val_ 1 (by decide) hmi (by decide) (by decide) (by decide) _ rfl)
      · refine stepJ [1] (by kernel_rfl) rfl fun mm us w' hJ hmi hm => ?_
        have hs := hJ.open_ (i := 2) (by decide) (by decide) hmi
        have hB := hJ.bel hs
        have e1 : us 1 = .pointer (some ⟨r, 0, none⟩) := hJ.val 1 (hm 1 (by simp)) (by decide) (by decide) (by decide) (by decide)
        have v1 := (frame_at2 (us := us) hl (show (dpT[26]?).join = some 1 from rfl)).trans e1
        generalize frame dpT a0 us = fr at *
        exact val_J (v := .pointer (some ⟨r, 0, none⟩)) (w' := w') (by go_simp) (hJ.val_ 2 (by decide) hmi (by decide) (by decide) (by decide) _ rfl)
      · refine stepJ [2] (by kernel_rfl) rfl fun mm us w' hJ hmi hm => ?_
        have hs := hJ.open_ (i := 3) (by decide) (by decide) hmi
        have hB := hJ.bel hs
        have e2 : us 2 = .pointer (some ⟨r, 0, none⟩) := hJ.val 2 (hm 2 (by simp)) (by decide) (by decide) (by decide) (by decide)
        have v2 := (frame_at2 (us := us) hl (show (dpT[27]?).join = some 2 from rfl)).trans e2
        generalize frame dpT a0 us = fr at *
        exact val_J (v := .pointer (some ⟨r, 1, none⟩)) (w' := w') (by go_simp) (hJ.val_ 3 (by decide) hmi (by decide) (by decide) (by decide) _ rfl)
      · refine stepJ [3] (by kernel_rfl) rfl fun mm us w' hJ hmi hm => ?_
        have hs := hJ.open_ (i := 4) (by decide) (by decide) hmi
        have hB := hJ.bel hs
        have e3 : us 3 = .pointer (some ⟨r, 1, none⟩) := hJ.val 3 (hm 3 (by simp)) (by decide) (by decide) (by decide) (by decide)
        have v3 := (frame_at2 (us := us) hl (show (dpT[28]?).join = some 3 from rfl)).trans e3
        have hc := (HD.out.below hB).l_
        generalize frame dpT a0 us = fr at *
        exact val_J (v := .slice (some ⟨b, O, none⟩) m c) (w' := w') (by go_simp) (hJ.val_ 4 (by decide) hmi (by decide) (by decide) (by decide) _ rfl)
      · refine stepJ [] (by kernel_rfl) rfl fun mm us w' hJ hmi hm => ?_
        have hs := hJ.open_ (i := 5) (by decide) (by decide) hmi
        have hB := hJ.bel hs
        have o5 := (frame_old2 (us := us) (a := a0) (show (dpT[5]?).join = none from rfl)).trans k5
        generalize frame dpT a0 us = fr at *
        exact val_J (v := .int .i64 i) (w' := w') (by go_simp) (hJ.val_ 5 (by decide) hmi (by decide) (by decide) (by decide) _ rfl)
      · refine stepJ [4, 5] (by kernel_rfl) rfl fun mm us w' hJ hmi hm => ?_
        have hs := hJ.open_ (i := 6) (by decide) (by decide) hmi
        have hB := hJ.bel hs
        have e4 : us 4 = .slice (some ⟨b, O, none⟩) m c := hJ.val 4 (hm 4 (by simp)) (by decide) (by decide) (by decide) (by decide)
        have v4 := (frame_at2 (us := us) hl (show (dpT[29]?).join = some 4 from rfl)).trans e4
        have e5 : us 5 = .int .i64 i := hJ.val 5 (hm 5 (by simp)) (by decide) (by decide) (by decide) (by decide)
        have v5 := (frame_at2 (us := us) hl (show (dpT[30]?).join = some 5 from rfl)).trans e5
        generalize frame dpT a0 us = fr at *
        exact val_J (v := .slice (some ⟨b, O, none⟩) i c) (w' := w') (run_upK rfl v4 v5 HKC.out) (hJ.val_ 6 (by decide) hmi (by decide) (by decide) (by decide) _ rfl)
      · refine stepJ [6] (by kernel_rfl) rfl fun mm us w' hJ hmi hm => ?_
        have hs := hJ.open_ (i := 7) (by decide) (by decide) hmi
        have hB := hJ.bel hs
        have e6 : us 6 = .slice (some ⟨b, O, none⟩) i c := hJ.val 6 (hm 6 (by simp)) (by decide) (by decide) (by decide) (by decide)
        have v6 := (frame_at2 (us := us) hl (show (dpT[31]?).join = some 6 from rfl)).trans e6
        generalize frame dpT a0 us = fr at *
        exact appK_J (R := fun v w'' => (ApJ w r 7 15 1000 18 (dpV r b O m c i) (es.take i) (es.take i ++ es.drop (i + 1)) zKe) (upd mm 7 true) (upd us 7 v) w'') (.const (.slice none 0 0)) (.tmp 31) rfl w.heap.size (.slice none 0 0) [] rfl (OwnK.nil _ _) _ _ (some ⟨b, O, none⟩) i c (es.take i) (ev_tmpM v6) ((HROW.out.below hB hB.size).take HKM.out) TK.out (by simp; have := HKM.out; have := HM.out; omega) (fun _ => .inr ⟨b, O, rfl⟩) hB.size fun v' w'' h1 h2 => hJ.one (by decide) hmi (by decide) (by decide) h1 (grown_below h2 (Nat.le_refl _) (fun g hg => by cases hg))
      · refine stepJ [] (by kernel_rfl) rfl fun mm us w' hJ hmi hm => ?_
        have hs := hJ.open_ (i := 8) (by decide) (by decide) hmi
        have hB := hJ.bel hs
        have o0 := (frame_old2 (us := us) (a := a0) (show (dpT[0]?).join = none from rfl)).trans k0
        generalize frame dpT a0 us = fr at *
        exact val_J (v := .pointer (some ⟨r, 0, none⟩)) (w' := w') (by go_simp) (hJ.val_ 8 (by decide) hmi (by decide) (by decide) (by decide) _ rfl)
      · refine stepJ [8] (by kernel_rfl) rfl fun mm us w' hJ hmi hm => ?_
        have hs := hJ.open_ (i := 9) (by decide) (by decide) hmi
        have hB := hJ.bel hs
        have e8 : us 8 = .pointer (some ⟨r, 0, none⟩) := hJ.val 8 (hm 8 (by simp)) (by decide) (by decide) (by decide) (by decide)
        have v8 := (frame_at2 (us := us) hl (show (dpT[33]?).join = some 8 from rfl)).trans e8
        generalize frame dpT a0 us = fr at *
        exact val_J (v := .pointer (some ⟨r, 0, none⟩)) (w' := w') (by go_simp) (hJ.val_ 9 (by decide) hmi (by decide) (by decide) (by decide) _ rfl)
      · refine stepJ [9] (by kernel_rfl) rfl fun mm us w' hJ hmi hm => ?_
        have hs := hJ.open_ (i := 10) (by decide) (by decide) hmi
        have hB := hJ.bel hs
        have e9 : us 9 = .pointer (some ⟨r, 0, none⟩) := hJ.val 9 (hm 9 (by simp)) (by decide) (by decide) (by decide) (by decide)
        have v9 := (frame_at2 (us := us) hl (show (dpT[34]?).join = some 9 from rfl)).trans e9
        generalize frame dpT a0 us = fr at *
        exact val_J (v := .pointer (some ⟨r, 1, none⟩)) (w' := w') (by go_simp) (hJ.val_ 10 (by decide) hmi (by decide) (by decide) (by decide) _ rfl)
      · refine stepJ [10] (by kernel_rfl) rfl fun mm us w' hJ hmi hm => ?_
        have hs := hJ.open_ (i := 11) (by decide) (by decide) hmi
        have hB := hJ.bel hs
        have e10 : us 10 = .pointer (some ⟨r, 1, none⟩) := hJ.val 10 (hm 10 (by simp)) (by decide) (by decide) (by decide) (by decide)
        have v10 := (frame_at2 (us := us) hl (show (dpT[35]?).join = some 10 from rfl)).trans e10
        have hc := (HD.out.below hB).l_
        generalize frame dpT a0 us = fr at *
        exact val_J (v := .slice (some ⟨b, O, none⟩) m c) (w' := w') (by go_simp) (hJ.val_ 11 (by decide) hmi (by decide) (by decide) (by decide) _ rfl)
      · refine stepJ [] (by kernel_rfl) rfl fun mm us w' hJ hmi hm => ?_
        have hs := hJ.open_ (i := 12) (by decide) (by decide) hmi
        have hB := hJ.bel hs
        have o5 := (frame_old2 (us := us) (a := a0) (show (dpT[5]?).join = none from rfl)).trans k5
        generalize frame dpT a0 us = fr at *
        exact val_J (v := .int .i64 i) (w' := w') (by go_simp) (hJ.val_ 12 (by decide) hmi (by decide) (by decide) (by decide) _ rfl)
      · refine stepJ [12] (by kernel_rfl) rfl fun mm us w' hJ hmi hm => ?_
        have hs := hJ.open_ (i := 13) (by decide) (by decide) hmi
        have hB := hJ.bel hs
        have e12 : us 12 = .int .i64 i := hJ.val 12 (hm 12 (by simp)) (by decide) (by decide) (by decide) (by decide)
        have v12 := (frame_at2 (us := us) hl (show (dpT[37]?).join = some 12 from rfl)).trans e12
        have wi := WI.out
        generalize frame dpT a0 us = fr at *
        exact val_J (v := .int .i64 (i + 1 : Nat)) (w' := w') (by go_simp) (hJ.val_ 13 (by decide) hmi (by decide) (by decide) (by decide) _ rfl)
      · refine stepJ [11, 13] (by kernel_rfl) rfl fun mm us w' hJ hmi hm => ?_
        have hs := hJ.open_ (i := 14) (by decide) (by decide) hmi
        have hB := hJ.bel hs
        have e11 : us 11 = .slice (some ⟨b, O, none⟩) m c := hJ.val 11 (hm 11 (by simp)) (by decide) (by decide) (by decide) (by decide)
        have v11 := (frame_at2 (us := us) hl (show (dpT[36]?).join = some 11 from rfl)).trans e11
        have e13 : us 13 = .int .i64 (i + 1 : Nat) := hJ.val 13 (hm 13 (by simp)) (by decide) (by decide) (by decide) (by decide)
        have v13 := (frame_at2 (us := us) hl (show (dpT[38]?).join = some 13 from rfl)).trans e13
        generalize frame dpT a0 us = fr at *
        exact val_J (v := .slice (some (if c = i + 1 then ⟨b, O, none⟩ else ⟨b, O + (i + 1) * 26, none⟩)) (m - (i + 1)) (c - (i + 1))) (w' := w') (run_downK rfl v11 v13 HK1.out HNC.out) (hJ.val_ 14 (by decide) hmi (by decide) (by decide) (by decide) _ rfl)
      · refine stepJ [7, 14] (by kernel_rfl) rfl fun mm us w' hJ hmi hm => ?_
        have hs := hJ.open_ (i := 15) (by decide) (by decide) hmi
        have hB := hJ.bel hs
        have f7 := (frame_at2 (us := us) (a := a0) hl (show (dpT[32]?).join = some 7 from rfl))
        have e14 : us 14 = .slice (some (if c = i + 1 then ⟨b, O, none⟩ else ⟨b, O + (i + 1) * 26, none⟩)) (m - (i + 1)) (c - (i + 1)) := hJ.val 14 (hm 14 (by simp)) (by decide) (by decide) (by decide) (by decide)
        have v14 := (frame_at2 (us := us) hl (show (dpT[39]?).join = some 14 from rfl)).trans e14
        have ho := hJ.a1 (hm 7 (by simp)) hmi
        have hma := hm 7 (by simp)
        generalize frame dpT a0 us = fr at *
        exact appK_J (R := fun v w'' => (ApJ w r 7 15 1000 18 (dpV r b O m c i) (es.take i) (es.take i ++ es.drop (i + 1)) zKe) (upd mm 15 true) (upd us 15 v) w'') (.tmp 32) (.tmp 39) rfl w.heap.size (us 7) (es.take i) (ev_tmpM f7) ho _ _ (some (if c = i + 1 then ⟨b, O, none⟩ else ⟨b, O + (i + 1) * 26, none⟩)) (m - (i + 1)) (c - (i + 1)) (es.drop (i + 1)) (ev_tmpM v14) ((HROW.out.below hB hB.size).downK HK1.out HNC.out) DK.out (by rw [List.length_take]; have := HM.out; have := HKM.out; omega) (fun _ => plainK b O c (i + 1)) hB.size fun v' w'' h1 h2 => hJ.two (by decide) hmi hma (fun e => absurd e (by decide)) (by decide) (by decide) h1 (grown_below h2 hB.size (fun g hg => (ho.blk g hg).1))
      · refine stepJ [0] (by kernel_rfl) rfl fun mm us w' hJ hmi hm => ?_
        have e0 : us 0 = .pointer (some ⟨r, 0, none⟩) := hJ.val 0 (hm 0 (by simp)) (by decide) (by decide) (by decide) (by decide)
        have v0 := (frame_at2 (us := us) hl (show (dpT[25]?).join = some 0 from rfl)).trans e0
        generalize frame dpT a0 us = fr at *
        exact val_J (v := .pointer (some ⟨r, 0, none⟩)) (w' := w') (by go_simp) (hJ.val_ 16 (by decide) hmi (by decide) (by decide) (by decide) _ rfl)
      · refine stepJ [16] (by kernel_rfl) rfl fun mm us w' hJ hmi hm => ?_
        have hs := hJ.open_ (i := 17) (by decide) (by decide) hmi
        have hB := hJ.bel hs
        have e16 : us 16 = .pointer (some ⟨r, 0, none⟩) := hJ.val 16 (hm 16 (by simp)) (by decide) (by decide) (by decide) (by decide)
        have v16 := (frame_at2 (us := us) hl (show (dpT[41]?).join = some 16 from rfl)).trans e16
        generalize frame dpT a0 us = fr at *
        exact val_J (v := .pointer (some ⟨r, 1, none⟩)) (w' := w') (by go_simp) (hJ.val_ 17 (by decide) hmi (by decide) (by decide) (by decide) _ rfl)
      · refine stepJ [0, 1, 2, 3, 4, 5, 6, 7, 8, 9, 10, 11, 12, 13, 14, 15, 17] (by kernel_rfl) rfl fun mm us w' hJ hmi hm => ?_
        have hs := hmi
        have hB := hJ.bel hs
        have e17 : us 17 = .pointer (some ⟨r, 1, none⟩) := hJ.val 17 (hm 17 (by simp)) (by decide) (by decide) (by decide) (by decide)
        have v17 := (frame_at2 (us := us) hl (show (dpT[42]?).join = some 17 from rfl)).trans e17
        have f15 := (frame_at2 (us := us) (a := a0) hl (show (dpT[40]?).join = some 15 from rfl))
        have hrow := (HD.out.below hB).row
        have hc := (HD.out.below hB).l_
        have hf := frozen_of_row w' r 1 _ _ hrow
        have hall : ∀ i, i < 18 → i + 2 ≠ 18 → mm i = true := fun i hi hx => hm i (by simp; omega)
        obtain ⟨A9, c9, hv9, -, -, -⟩ := (hJ.a2 (hall 15 (by decide) (by decide)) hmi).form E2L.out
        rw [hv9] at f15
        generalize frame dpT a0 us = fr at *
        exact free_skip (w' := w'.setCell ⟨r, 1, none⟩ (.slice A9 (es.take i ++ es.drop (i + 1)).length c9)) (by go_simp) ⟨undef, rfl, hJ.sto hmi hall (by decide) (by decide) (by decide) _ hv9.symm⟩
      · intro m' us w6 hall hJ
        have hf := hJ.fin (hall 18 (by decide))
        have HF := Lib.hid hf
        clear hf hJ hall
        subst ha0
        simp only [frame, dpT, fill]
        clear hl k0 k5 c1
        obtain ⟨w1, hb1, ho1, hw1⟩ := HF.out
        have HG := Lib.hid (ring_sto HPN.out HD.out hb1 ho1 hw1 E2K.out E2N.out)
        clear hb1 ho1 hw1 HF
        generalize us 0 = u_0
        generalize us 1 = u_1
        generalize us 2 = u_2
        generalize us 3 = u_3
        generalize us 4 = u_4
        generalize us 5 = u_5
        generalize us 6 = u_6
        generalize us 7 = u_7
        generalize us 8 = u_8
        generalize us 9 = u_9
        generalize us 10 = u_10
        generalize us 11 = u_11
        generalize us 12 = u_12
        generalize us 13 = u_13
        generalize us 14 = u_14
        generalize us 15 = u_15
        generalize us 16 = u_16
        generalize us 17 = u_17
        go_wp2_with fail
        go_ret
        exact ⟨by first | (rw [HE.out]; done) | (rw [HE.out]; rfl), by rw [HR.out]; exact HG.out.1, HG.out.2⟩
    · have hq2 : (en == n) = false := beq_eq_false_iff_ne.2 hq
      have hn := NO.out (by show decide (e.val.1.n = n) = false; rw [NV.out]; exact decide_eq_false hq)
      have HN2 := Lib.hid hn
      clear hn hq
      go_wp2_with fail
      go_roundw
      case rel => exact ⟨i + 1, by have := HI.out; omega, by go_num, (by first | rfl | trivial), HN2.out⟩
      case measure => have := HI.out; simp [intOf]; omega
end Go.Proofs.Ytflfkhcbkhdahaa.mkC

/-
  Regions that draw their order: an operation behind a guard that may not be wanted.
-/
namespace Go.Proofs.Ytflfkhcbkhdahaa.freeC
open Go.ChangeShapes Go.WideShapes Go.ChangeAt Go.RowKit
set_option linter.unusedVariables false
section
variable {P : Program} {L : List Oper} {Q : Exit → Act → World → Prop} {o : Oper} {a : Act} {tab : List (Option Nat)} {G : World → Prop} {V : Nat → Value → World → Prop} {i : Nat}
/-- an operation whose guard may say either -/
theorem step_cnd (need : List Nat) (hn : needs o need = true) {j t : Nat} (hg : o.guard = some (j, true)) (hj : j ∈ need) (hL : (L[j]?).bind (·.dst) = some t) (hl : tab.length = a.tmps.size) (ht : (tab[t]?).join = some j) (c : Bool)
    (hv : ∀ v w, V j v w → v = .bool c) (hu : c = false → ∀ w, V i undef w)
    (h : c = true → ∀ us w, G w → (∀ j, j ∈ need → V j (us j) w) → o.wp P (frame tab a us) w (fun a' w' => ∃ v, a' = (frame tab a us).put o.dst v ∧ G w' ∧ Below w.heap.size w w' ∧ V i v w') Q) : Step P L Q tab a G V i o := by
  intro m us w hG hV hd
  have hy := yield_at (L := L) (us := us) hl hL ht (hv _ _ (hV j (need_ok hn hd j hj)))
  cases c
  · rw [if_neg (by simp [Region.wanted, hg, hy])]
    exact hu rfl w
  · rw [if_pos (show Region.wanted o (yielded L.toArray (frame tab a us).tmps) = true by simp [Region.wanted, hg, hy])]
    exact h rfl us w hG fun j hj => hV j (need_ok hn hd j hj)
end
end Go.Proofs.Ytflfkhcbkhdahaa.freeC
