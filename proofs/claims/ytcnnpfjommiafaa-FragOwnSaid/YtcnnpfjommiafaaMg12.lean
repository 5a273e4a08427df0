/-
  11 texts of a proof, joined.
-/
import Derived.Test.YtcnnpfjommiafaaMg9
import Derived.Test.YtcnnpfjommiafaaMg1
import Derived.Test.YtcnnpfjommiafaaMg11
import Derived.Test.YtcnnpfjommiafaaMg4
import Derived.Test.YtcnnpfjommiafaaMg3
import Derived.ProofKit
import Derived.Outline
import Derived.Deep.QuietTactic
import Derived.BigQuiet
import Derived.Lib.Hide
import Derived.IntWalk
import Derived.Laws.BitsAllLaws
import Derived.Test.YtcnnpfjommiafaaMg8
import Derived.Deep.Matrix
import Derived.Lib.AppendZeros
import Derived.StillTailTactics
import Derived.Deep.RegionWith
import Derived.Laws.Rows
import Derived.BigRegion
import Derived.Deep.CutRange
import Derived.Test.YtcnnpfjommiafaaMg5
import Derived.Laws.CopyOwn

/-
  Rows of packets in memory; append of packets.
-/
namespace Go.Proofs.Ytcnnpfjommiafaa.fgC
open Go.ChangeShapes Go.WideShapes Go.ChangeAt Go.RowKit
open Go.Proofs.Ytcnnpfjommiafaa.memC Go.Proofs.Ytcnnpfjommiafaa.genC Go.Proofs.Ytcnnpfjommiafaa.butC Go.Proofs.Ytcnnpfjommiafaa.freeC Go.Proofs.Ytcnnpfjommiafaa.adC
open Go.Proofs.Ytcnnpfjommiafaa.pkC (Pkt pktL pktV)
set_option linter.unusedVariables false
/-- a packet as it lies in a row, and its load -/
structure Pe where
  p : Pkt
  A : Option Addr
  n : Nat
  c : Nat
  x : List Int
def Pe.cells (e : Pe) : List Value := pktL e.p e.A e.n e.c
def Pe.pc (e : Pe) : Pc := (e.p, e.x)
structure Pe.Ok (e : Pe) : Prop where
  p : e.p.Ok
  y : ∀ x ∈ e.x, Byte x
  nc : e.n ≤ e.c
  cm : e.c ≤ 9223372036854775807
def Ld (w : World) (B : Nat) (e : Pe) : Prop := Nums .u8 w B e.A e.n e.x
theorem Ld.below {w w' : World} {B B' : Nat} {e : Pe} (h : Ld w B e) (hb : Below B w w') (hB : B ≤ B') : Ld w' B' e := (Nums.below h hb).more hB
theorem Pe.cells_len {e : Pe} (h : e.p.Ok) : e.cells.length = 41 := pkC.pktL_len h.la h.lb _ _ _
theorem Pe.one {e : Pe} : ∀ u ∈ e.cells, u.oneCell' = true := by
  intro u hu
  have ha : ∀ (s : Bool) (b : List Int), ∀ u ∈ pkC.adrC s b, u.oneCell' = true := fun s b u hu => by
    rcases List.mem_cons.1 hu with rfl | hu
    · rfl
    · obtain ⟨z, -, rfl⟩ := List.mem_map.1 hu; rfl
  unfold Pe.cells pktL at hu
  rcases List.mem_append.1 hu with hu | hu
  · exact ha _ _ u hu
  · rcases List.mem_append.1 hu with hu | hu
    · exact ha _ _ u hu
    · unfold pkC.pktT at hu
      simp at hu
      rcases hu with rfl | rfl | rfl | rfl | rfl | rfl | rfl <;> rfl
def flatK (es : List Pe) : List Value := es.flatMap Pe.cells
theorem flatK_len : ∀ {es : List Pe}, (∀ e ∈ es, e.p.Ok) → (flatK es).length = es.length * 41
  | [], _ => rfl
  | e :: r, h => by
    have ih := flatK_len (es := r) fun x hx => h x (by simp [hx])
    unfold flatK at ih ⊢
    rw [List.flatMap_cons, List.length_append, ih, Pe.cells_len (h e (by simp)), List.length_cons, Nat.succ_mul]; omega
theorem flatK_at : ∀ {es : List Pe} (h : ∀ e ∈ es, e.p.Ok) (i : Nat) (e : Pe) (j : Nat), es[i]? = some e → j < 41 → (flatK es)[i * 41 + j]? = e.cells[j]?
  | [], h, i, e, j, he, hj => by cases he
  | f :: r, h, 0, e, j, he, hj => by
    simp at he; subst he
    unfold flatK
    rw [List.flatMap_cons, Nat.zero_mul, Nat.zero_add, List.getElem?_append_left (by rw [Pe.cells_len (h f (by simp))]; exact hj)]
  | f :: r, h, i + 1, e, j, he, hj => by
    have hl := Pe.cells_len (h f (by simp))
    have ih := flatK_at (es := r) (fun x hx => h x (by simp [hx])) i e j (by simpa using he) hj
    unfold flatK at ih ⊢
    rw [List.flatMap_cons, Nat.succ_mul, List.getElem?_append_right (by rw [hl]; omega), hl]
    rw [show i * 41 + 41 + j - 41 = i * 41 + j by omega]
    exact ih
theorem flatK_one (es : List Pe) : ∀ u ∈ flatK es, u.oneCell' = true := fun u hu => by
  obtain ⟨e, -, h⟩ := List.mem_flatMap.1 hu
  exact Pe.one u h
theorem flatK_append (a b : List Pe) : flatK (a ++ b) = flatK a ++ flatK b := List.flatMap_append
/-- the slice at A, of n packets, lies below block B -/
structure RowK (w : World) (B : Nat) (A : Option Addr) (n : Nat) (es : List Pe) : Prop where
  len : es.length = n
  at_ : 0 < n → ∃ b o, A = some ⟨b, o, none⟩ ∧ b < B ∧ ∀ i e, es[i]? = some e → ∀ j v, e.cells[j]? = some v → w.cell? ⟨b, o + i * 41 + j, none⟩ = some v
/-- .. with what they hold -/
structure PksE (w : World) (B : Nat) (A : Option Addr) (n : Nat) (es : List Pe) : Prop where
  row : RowK w B A n es
  ld : ∀ e ∈ es, Ld w B e
  ok : ∀ e ∈ es, e.Ok
section
variable {w w' : World} {B B' : Nat} {A : Option Addr} {n : Nat} {es : List Pe}
theorem RowK.none_ : RowK w B A 0 [] := ⟨rfl, fun h => absurd h (Nat.lt_irrefl 0)⟩
theorem RowK.below (h : RowK w B A n es) (hb : Below B w w') (hB : B ≤ B') : RowK w' B' A n es :=
  ⟨h.len, fun hn => by
    obtain ⟨b, o, e, hlt, hc⟩ := h.at_ hn
    exact ⟨b, o, e, by omega, fun i f hf j v hv => (hb.cell (p := ⟨b, o + i * 41 + j, none⟩) hlt).trans (hc i f hf j v hv)⟩⟩
theorem PksE.none_ : PksE w B A 0 [] := ⟨RowK.none_, by simp, by simp⟩
theorem PksE.below (h : PksE w B A n es) (hb : Below B w w') (hB : B ≤ B') : PksE w' B' A n es := ⟨h.row.below hb hB, fun e he => (h.ld e he).below hb hB, h.ok⟩
theorem PksE.len (h : PksE w B A n es) : es.length = n := h.row.len
end
/-- the call's own row of packets -/
def OwnK (w : World) (base : Nat) (v : Value) (es : List Pe) : Prop := w.ownsRow base 28 41 v es.length (flatK es)
section
variable {w w' : World} {base B : Nat} {v : Value} {es : List Pe}
theorem OwnK.nil (w : World) (base : Nat) : OwnK w base (.slice none 0 0) [] := World.ownsRow_nil w base 28 41
theorem OwnK.blk (h : OwnK w base v es) : ∀ g, v.ownBlock = some g → base ≤ g ∧ g < w.heap.size := fun g hg => h.lt g hg
theorem OwnK.form (h : OwnK w base v es) (hok : ∀ e ∈ es, e.p.Ok) : ∃ A cap, v = .slice A es.length cap ∧ es.length ≤ cap ∧ cap ≤ maxLen ∧ RowK w w.heap.size A es.length es := by
  rcases h.2 with ⟨rfl, h0⟩ | ⟨g, cap, cur, rfl, hb, hh, hl, hm, hs, ht⟩
  · rw [h0]
    exact ⟨none, 0, rfl, Nat.le_refl _, by simp [maxLen], ⟨h0, fun h => absurd h (Nat.lt_irrefl 0)⟩⟩
  · refine ⟨some ⟨g, 0, none⟩, cap, rfl, hl, hm, rfl, fun hn => ⟨g, 0, rfl, (h.lt g rfl).2, fun i e he j v hv => ?_⟩⟩
    have hj : j < 41 := by
      have := (List.getElem?_eq_some_iff.1 hv).1
      rw [Pe.cells_len (hok e (List.mem_of_getElem? he))] at this
      exact this
    have h1 := World.ownsRow.cells h (g := g) rfl (i * 41 + j) v (by rw [flatK_at hok i e j he hj]; exact hv)
    rw [memC.add_plain] at h1
    rw [show 0 + i * 41 + j = 0 + (i * 41 + j) by omega]
    exact h1
theorem OwnK.keep (h : OwnK w base v es) (hk : ∀ g, base ≤ g → g < w.heap.size → w'.heap[g]? = w.heap[g]?) : OwnK w' base v es := by
  refine ⟨h.1, ?_⟩
  rcases h.2 with h0 | ⟨g, cap, cur, rfl, hb, hh, h'⟩
  · exact .inl h0
  · exact .inr ⟨g, cap, cur, rfl, hb, (hk g hb (h.lt g rfl).2).trans hh, h'⟩
theorem OwnK.below (h : OwnK w base v es) (hb : Below w.heap.size w w') : OwnK w' base v es := h.keep fun g _ hg => hb.block g hg
theorem OwnK.less (h : OwnK w base v es) (hB : B ≤ base) : OwnK w B v es := by
  refine ⟨h.1, ?_⟩
  rcases h.2 with h0 | ⟨g, cap, cur, rfl, hb, hh, h'⟩
  · exact .inl h0
  · exact .inr ⟨g, cap, cur, rfl, Nat.le_trans hB hb, hh, h'⟩
end
theorem zPktV : pktV zPkt none 0 0 = pktV zPkt none 0 0 := rfl
theorem pkt_infoK : (Try.prog.info? 28).map (fun i => (i.zero, i.size, i.bytes)) = some (some (.agg (pktV zPkt none 0 0)), 41, 80) := by kernel_rfl
/-- append(own, packets...) -/
theorem run_appK (w : World) (base : Nat) (v : Value) (es : List Pe) (hown : OwnK w base v es) (ty : TypeId)
    (B : Nat) (A : Option Addr) (m c : Nat) (fs : List Pe) (hr : RowK w B A m fs) (hok : ∀ e ∈ fs, e.p.Ok) (hl : es.length + m ≤ 1000000) (hm : 0 < m) (hbase : base ≤ w.heap.size) :
    ∃ v' w', (Builtin.append_ #[30, 30] ty #[v, .slice A m c]).run Try.prog w = .ok v' w' ∧ OwnK w' base v' (es ++ fs) ∧ w.grownBy w' v.ownBlock := by
  obtain ⟨i, hi, he⟩ := Option.map_eq_some_iff.1 pkt_infoK
  obtain ⟨hz, he2⟩ := Prod.mk.inj he
  obtain ⟨hs, hb⟩ := Prod.mk.inj he2
  obtain ⟨b, o, rfl, hb', hc⟩ := hr.at_ hm
  have hlq := hr.len
  obtain ⟨v', w', hrun, h2, h3, _⟩ := run_append_own (P := Try.prog) w base 30 ty 28 i _ 41 80 Try.underlying30 hi hz hs hb rfl (by omega) v _ _ hown ⟨b, o, none⟩ m c (flatK fs) (by rw [flatK_len hok, hlq])
    (fun j u hu => by
      have hj : j < m * 41 := by
        have := (List.getElem?_eq_some_iff.1 hu).1
        rw [flatK_len hok, hlq] at this; exact this
      have hi2 : j / 41 < fs.length := by rw [hlq]; omega
      have hf := List.getElem?_eq_getElem hi2
      have h9 := flatK_at hok (j / 41) _ (j % 41) hf (Nat.mod_lt _ (by omega))
      have e : j / 41 * 41 + j % 41 = j := by omega
      rw [e, hu] at h9
      have := hc (j / 41) _ hf (j % 41) u h9.symm
      rw [memC.add_plain]
      rw [show o + j / 41 * 41 + j % 41 = o + j by omega] at this
      exact this) (flatK_one fs) (by simp only [maxLen]; omega) (by omega) hbase
  refine ⟨v', w', hrun, ?_, h3⟩
  unfold OwnK
  rw [List.length_append, hlq, flatK_append]
  exact h2
theorem wpList_appK {ops : Array Oper} {rest : List Oper} {o : Oper} {a : Act} {Q : Exit → Act → World → Prop} (w : World) (hgd : o.guard = none) (s x : Operand)
    (ho : o.op = .call { callee := .builtin .append, args := #[s, x], argTypes := #[30, 30] }) (base : Nat) (v : Value) (es : List Pe) (hs : a.eval s = v) (hown : OwnK w base v es) (hoke : ∀ e ∈ es, e.p.Ok)
    (B : Nat) (A : Option Addr) (m c : Nat) (fs : List Pe) (hx : a.eval x = .slice A m c) (hr : RowK w B A m fs) (hok : ∀ e ∈ fs, e.p.Ok) (hl : es.length + m ≤ 1000000) (hm : 0 < m) (hbase : base ≤ w.heap.size) (L : Nat) (hL : es.length + m = L)
    (h : ∀ A' c' w', L ≤ c' → OwnK w' base (.slice A' L c') (es ++ fs) → Below base w w' → w.grownBy w' v.ownBlock → wpList Try.prog ops Q rest (a.put o.dst (.slice A' L c')) w') : wpList Try.prog ops Q (o :: rest) a w := by
  obtain ⟨v', w', hrun, h2, h3⟩ := run_appK w base v es hown o.type B A m c fs hr hok hl hm hbase
  refine wpList_plain hgd fun K hK => ?_
  unfold Oper.wp execOp
  simp only [ho, resolve, invoke, builtin, Sem.run_bind, Sem.run_pure, Result.andThen_ok, List.map_toArray, List.map_cons, List.map_nil, hs, hx, hrun]
  refine hK _ _ ?_
  have e : (es ++ fs).length = L := by rw [List.length_append, hr.len]; exact hL
  obtain ⟨A', c', e2, g1, g2, N⟩ := h2.form (fun e he => by rcases List.mem_append.1 he with h | h; exact hoke e h; exact hok e h)
  rw [e] at e2 g1
  subst e2
  exact h A' c' w' g1 h2 (grown_below h3 hbase fun g hg => (hown.blk g hg).1) h3
/-- own bytes stand where a row of packets grows -/
theorem own_grownK {w w' : World} {base base' : Nat} {v u : Value} {xs : List Int} {es : List Pe} (h : Own .u8 5 w base v xs) (O : OwnK w base' u es) (hg : w.grownBy w' u.ownBlock) : Own .u8 5 w' base v xs := by
  refine ⟨h.1, ?_⟩
  rcases h.2 with h0 | ⟨k, cap, cur, e1, hb, hh, h'⟩
  · exact .inl h0
  · refine .inr ⟨k, cap, cur, e1, hb, ?_, h'⟩
    have hk : k < w.heap.size := (Array.getElem?_eq_some_iff.1 hh).1
    rw [hg.block k hk (fun q => ?_)]
    · exact hh
    · rcases O.2 with ⟨rfl, -⟩ | ⟨g, cap2, cur2, rfl, hb2, hh2, -⟩
      · cases q
      · have q2 : g = k := (Option.some.inj q).symm
        subst q2
        rw [hh] at hh2
        injection hh2 with hh2
        injection hh2 with _ hh2 _
        exact absurd hh2 (by decide)
/-- a row of one packet that was just laid -/
theorem rowK1 {w : World} {g : Nat} {e : Pe} (hr : w.heap[g]? = some (.cells e.cells.toArray 28 (0, 0))) : RowK w w.heap.size (some ⟨g, 0, none⟩) 1 [e] := by
  refine ⟨rfl, fun _ => ⟨g, 0, rfl, (Array.getElem?_eq_some_iff.1 hr).1, fun i f hf j v hv => ?_⟩⟩
  match i, hf with
  | 0, hf =>
    simp at hf
    subst hf
    rw [cell_of_row w g (0 + 0 * 41 + j) _ _ (0, 0) hr]
    simpa using hv
end Go.Proofs.Ytcnnpfjommiafaa.fgC

/-
  Whether two lists of packets are the same: the law's; of lists that hold the same.
-/
namespace Go.Proofs.Ytcnnpfjommiafaa.fgC
open Go.ChangeShapes Go.WideShapes Go.ChangeAt Go.RowKit
open Go.Proofs.Ytcnnpfjommiafaa.memC Go.Proofs.Ytcnnpfjommiafaa.genC Go.Proofs.Ytcnnpfjommiafaa.butC Go.Proofs.Ytcnnpfjommiafaa.freeC Go.Proofs.Ytcnnpfjommiafaa.adC
open Go.Proofs.Ytcnnpfjommiafaa.pkC (Pkt pktL pktV)
set_option linter.unusedVariables false
theorem pkt_size {e : Pe} (h : e.p.Ok) : (Try.prog.info? 28).map (·.size) = some e.cells.length := by rw [Pe.cells_len h]; kernel_rfl
theorem sameB_selfK (p : Pkt) (x : List Int) : pkC.sameB p x p x = true := by unfold pkC.sameB; simp
theorem loadp_runK {P : Program} {fr : Act} {o : Oper} {w : World} {s : Tmp} {T : TypeId} {g q : Nat} (ho : o.op = .load T (.tmp s)) (hx : fr.tmps[s]?.getD undef = .pointer (some ⟨g, q, none⟩)) (L : List Value) (d : TypeDesc)
    (hc : ∀ j v, L[j]? = some v → w.cell? ⟨g, q + j, none⟩ = some v) (hu : P.underlying T = some d) (hd : (match d with | .struct _ | .array _ _ => true | _ => false) = true) (hi : (P.info? T).map (·.size) = some L.length) : (execOp fr.eval o).run P w = .ok (.value (.agg L.toArray)) w := by
  have hl := Go.Proofs.Ytcnnpfjommiafaa.partC.run_load_part (P := P) w g q T L d hc hu hd hi
  have hx2 : fr.eval (.tmp s) = .pointer (some ⟨g, q, none⟩) := by simpa only [Act.eval, Array.getD_eq_getD_getElem?] using hx
  unfold execOp
  simp only [ho, hx2, Instr.loadAt, Instr.sureAddr, Sem.run_bind, Sem.run_pure, Result.andThen_ok, hl]
def sqV (b1 o1 b2 o2 kx n c d : Nat) (EC FC : List Value) : Nat → Value → World → Prop
  | 0, v, _ => v = .slice (some ⟨b1, o1, none⟩) n c
  | 1, v, _ => v = .int .i64 kx
  | 2, v, _ => v = .pointer (some ⟨b1, o1 + kx * 41, none⟩)
  | 3, v, _ => v = .agg EC.toArray
  | 4, v, _ => v = .slice (some ⟨b2, o2, none⟩) n d
  | 5, v, _ => v = .int .i64 kx
  | 6, v, _ => v = .pointer (some ⟨b2, o2 + kx * 41, none⟩)
  | 7, v, _ => v = .agg FC.toArray
  | 8, v, _ => v = .bool true
  | 9, v, _ => v = .bool false
  | _, _, _ => True
theorem sqV.keep (b1 o1 b2 o2 kx n c d : Nat) (EC FC : List Value) (i : Nat) (v : Value) (w w' : World) (hb : Below w.heap.size w w') (h : sqV b1 o1 b2 o2 kx n c d EC FC i v w) : sqV b1 o1 b2 o2 kx n c d EC FC i v w' := by
  unfold sqV at h ⊢
  split at h <;> exact h
def sqT : List (Option Nat) := [none, none, none, none, none, none, none, none, none, none, none, none, none, none, none, none, some 0, some 1, some 2, some 3, some 4, some 5, some 6, some 7, some 8, some 9, none]
set_option maxRecDepth 100000 in
set_option maxHeartbeats 1000000 in
theorem same_self (A A' : Option Addr) (n c d : Nat) (es fs : List Pe) (w : World) (h : PksE w w.heap.size A n es) (h' : PksE w w.heap.size A' n fs) (he : es.map Pe.pc = fs.map Pe.pc) (hn : n ≤ 1000000) :
    Calls Try.prog 10 #[.slice A n c, .slice A' n d] w (Ret w (.bool true)) := by
  have HP := Lib.hid h
  have HQ := Lib.hid h'
  have HE := Lib.hid he
  have q2 : ((n : Int) != (n : Int)) = false := by simp
  clear h h' he
  go_enter Try.func10, Try.ntmps10
  go_upto_region 4 with fail
  clear q2
  go_loopw [13] (fun u wr => ∃ i : Nat, i ≤ n ∧ u = .int .i64 i ∧ Below w.heap.size w wr) (fun u _ => n - (intOf u).toNat)
  case atStart => exact ⟨0, by omega, rfl, Below.refl _ _⟩
  case round =>
    obtain ⟨i, hi, rfl, BW⟩ := hrel
    have HBW := Lib.hid BW
    by_cases hlt : i < n
    rotate_left
    · have q6 : ¬ (i : Int) < (n : Int) := by omega
      clear hlt hi BW
      go_wp2_with fail
      go_ret
      exact ⟨rfl, HBW.out⟩
    have q6 : (i : Int) < (n : Int) := by omega
    have hl1 := HP.out.len
    have hl2 := HQ.out.len
    obtain ⟨e, hei⟩ : ∃ e, es[i]? = some e := ⟨es[i]'(by omega), List.getElem?_eq_getElem _⟩
    obtain ⟨f, hfi⟩ : ∃ f, fs[i]? = some f := ⟨fs[i]'(by omega), List.getElem?_eq_getElem _⟩
    have hef : e.pc = f.pc := by
      have h1 := congrArg (fun l => l[i]?) HE.out
      simp only [List.getElem?_map, hei, hfi, Option.map_some] at h1
      exact Option.some.inj h1
    obtain ⟨b1, o1, hA1, hb1, c1⟩ := HP.out.row.at_ (by omega)
    obtain ⟨b2, o2, hA2, hb2, c2⟩ := HQ.out.row.at_ (by omega)
    have c1 := c1 i e hei
    have c2 := c2 i f hfi
    have me := List.mem_of_getElem? hei
    have mf := List.mem_of_getElem? hfi
    have oe := HP.out.ok e me
    have of_ := HQ.out.ok f mf
    have GB := Lib.hid (fun w' (h : Gr wr w') => (show Below w.heap.size w w' from HBW.out.trans (Below.mono h HBW.out.size)))
    have C1 := Lib.hid (fun w' (h : Gr wr w') => (show ∀ j v, e.cells[j]? = some v → w'.cell? ⟨b1, o1 + i * 41 + j, none⟩ = some v from fun j v hv => ((GB.out w' h).cell (p := ⟨b1, o1 + i * 41 + j, none⟩) hb1).trans (c1 j v hv)))
    have C2 := Lib.hid (fun w' (h : Gr wr w') => (show ∀ j v, f.cells[j]? = some v → w'.cell? ⟨b2, o2 + i * 41 + j, none⟩ = some v from fun j v hv => ((GB.out w' h).cell (p := ⟨b2, o2 + i * 41 + j, none⟩) hb2).trans (c2 j v hv)))
    have SM := Lib.hid (fun w' (h : Gr wr w') => (show Calls Try.prog 13 #[.agg e.cells.toArray, .agg f.cells.toArray] w' (Ret w' (.bool true)) by
      have h9 := pkC.rsame_any e.p f.p e.A f.A e.n e.c f.n f.c e.x f.x w' oe.p of_.p ((HP.out.ld e me).below (GB.out w' h) (GB.out w' h).size) ((HQ.out.ld f mf).below (GB.out w' h) (GB.out w' h).size) oe.y of_.y
      rw [show f.p = e.p from (congrArg Prod.fst hef).symm, show f.x = e.x from (congrArg Prod.snd hef).symm, sameB_selfK] at h9
      rw [show f.cells = pktL e.p f.A f.n f.c by unfold Pe.cells; rw [show f.p = e.p from (congrArg Prod.fst hef).symm]]
      exact h9))
    have IE := Lib.hid (pkt_size oe.p)
    have IF := Lib.hid (pkt_size of_.p)
    generalize e.cells = EC at *
    generalize f.cells = FC at *
    have I1 := Lib.hid (show (i : Int) < (n : Int) by omega)
    have KI := Lib.hid (show (0 : Int) ≤ (i : Int) by omega)
    have WI := Lib.hid (show IntKind.i64.wrap ((i : Int) + 1) = (i : Int) + 1 from IntWalk.i64_in _ (by omega))
    have HI := Lib.hid hlt
    subst hA1
    subst hA2
    clear hei hfi hef c1 c2 me mf oe of_ hl1 hl2 hb1 hb2 hlt hi BW GB
    go_upto_region 6 with fail
    clear q6
    refine with_act fun a0 ha0 => ?_
    have hl : sqT.length = a0.tmps.size := by rw [ha0]; rfl
    have k0 : a0.tmps[0]?.getD undef = .slice (some ⟨b1, o1, none⟩) n c := by rw [ha0]; rfl
    have k1 : a0.tmps[1]?.getD undef = .slice (some ⟨b2, o2, none⟩) n d := by rw [ha0]; rfl
    have k5 : a0.tmps[5]?.getD undef = .int .i64 i := by rw [ha0]; rfl
    refine wp_region_vals (by kernel_rfl) sqT (by kernel_rfl) (by kernel_rfl) hl (fun i => a0.tmps[i + 16]?.getD undef) (by rw [ha0]; rfl) (Gr wr) (sqV b1 o1 b2 o2 i n c d EC FC) (show Gr _ _ from (Below.refl _ _).drew) (sqV.keep _ _ _ _ _ _ _ _ _ _) ⟨?_, ?_, ?_, ?_, ?_, ?_, ?_, ?_, ?_, ?_, trivial⟩ ?_
    · refine step_plain [] (by kernel_rfl) rfl fun us w' hG hV => ?_
      have o0 := (frame_old2 (us := us) (a := a0) (show (sqT[0]?).join = none from rfl)).trans k0
      generalize frame sqT a0 us = fr at *
      exact val_ok (v := .slice (some ⟨b1, o1, none⟩) n c) (w' := w') (by go_simp) hG (Below.refl _ _) rfl
    · refine step_plain [] (by kernel_rfl) rfl fun us w' hG hV => ?_
      have o5 := (frame_old2 (us := us) (a := a0) (show (sqT[5]?).join = none from rfl)).trans k5
      generalize frame sqT a0 us = fr at *
      exact val_ok (v := .int .i64 i) (w' := w') (by go_simp) hG (Below.refl _ _) rfl
    · refine step_plain [0, 1] (by kernel_rfl) rfl fun us w' hG hV => ?_
      have e0 : us 0 = .slice (some ⟨b1, o1, none⟩) n c := hV 0 (by simp)
      have v0 := (frame_at2 (us := us) hl (show (sqT[16]?).join = some 0 from rfl)).trans e0
      have e1 : us 1 = .int .i64 i := hV 1 (by simp)
      have v1 := (frame_at2 (us := us) hl (show (sqT[17]?).join = some 1 from rfl)).trans e1
      have hi := I1.out
      have hk := KI.out
      generalize frame sqT a0 us = fr at *
      exact val_ok (v := .pointer (some ⟨b1, o1 + i * 41, none⟩)) (w' := w') (by go_simp) hG (Below.refl _ _) rfl
    · refine step_plain [2] (by kernel_rfl) rfl fun us w' hG hV => ?_
      have e2 : us 2 = .pointer (some ⟨b1, o1 + i * 41, none⟩) := hV 2 (by simp)
      have v2 := (frame_at2 (us := us) hl (show (sqT[18]?).join = some 2 from rfl)).trans e2
      have hg1 := C1.out w' hG
      generalize frame sqT a0 us = fr at *
      exact val_ok (v := .agg EC.toArray) (w' := w') (loadp_runK (s := 18) rfl v2 EC _ hg1 Try.underlying28 rfl IE.out) hG (Below.refl _ _) rfl
    · refine step_plain [] (by kernel_rfl) rfl fun us w' hG hV => ?_
      have o1 := (frame_old2 (us := us) (a := a0) (show (sqT[1]?).join = none from rfl)).trans k1
      generalize frame sqT a0 us = fr at *
      exact val_ok (v := .slice (some ⟨b2, o2, none⟩) n d) (w' := w') (by go_simp) hG (Below.refl _ _) rfl
    · refine step_plain [] (by kernel_rfl) rfl fun us w' hG hV => ?_
      have o5 := (frame_old2 (us := us) (a := a0) (show (sqT[5]?).join = none from rfl)).trans k5
      generalize frame sqT a0 us = fr at *
      exact val_ok (v := .int .i64 i) (w' := w') (by go_simp) hG (Below.refl _ _) rfl
    · refine step_plain [4, 5] (by kernel_rfl) rfl fun us w' hG hV => ?_
      have e4 : us 4 = .slice (some ⟨b2, o2, none⟩) n d := hV 4 (by simp)
      have v4 := (frame_at2 (us := us) hl (show (sqT[20]?).join = some 4 from rfl)).trans e4
      have e5 : us 5 = .int .i64 i := hV 5 (by simp)
      have v5 := (frame_at2 (us := us) hl (show (sqT[21]?).join = some 5 from rfl)).trans e5
      have hi := I1.out
      have hk := KI.out
      generalize frame sqT a0 us = fr at *
      exact val_ok (v := .pointer (some ⟨b2, o2 + i * 41, none⟩)) (w' := w') (by go_simp) hG (Below.refl _ _) rfl
    · refine step_plain [6] (by kernel_rfl) rfl fun us w' hG hV => ?_
      have e6 : us 6 = .pointer (some ⟨b2, o2 + i * 41, none⟩) := hV 6 (by simp)
      have v6 := (frame_at2 (us := us) hl (show (sqT[22]?).join = some 6 from rfl)).trans e6
      have hg1 := C2.out w' hG
      generalize frame sqT a0 us = fr at *
      exact val_ok (v := .agg FC.toArray) (w' := w') (loadp_runK (s := 22) rfl v6 FC _ hg1 Try.underlying28 rfl IF.out) hG (Below.refl _ _) rfl
    · refine step_plain [3, 7] (by kernel_rfl) rfl fun us w' hG hV => ?_
      have e3 : us 3 = .agg EC.toArray := hV 3 (by simp)
      have v3 := (frame_at2 (us := us) hl (show (sqT[19]?).join = some 3 from rfl)).trans e3
      have e7 : us 7 = .agg FC.toArray := hV 7 (by simp)
      have v7 := (frame_at2 (us := us) hl (show (sqT[23]?).join = some 7 from rfl)).trans e7
      generalize frame sqT a0 us = fr at *
      exact call_ok (f := 13) (args := #[.agg EC.toArray, .agg FC.toArray]) (by go_simp) ((SM.out w' hG).mono fun e w'' h => ⟨_, h.1, hG.below h.2, h.2, rfl⟩)
    · refine step_plain [8] (by kernel_rfl) rfl fun us w' hG hV => ?_
      have e8 : us 8 = .bool true := hV 8 (by simp)
      have v8 := (frame_at2 (us := us) hl (show (sqT[24]?).join = some 8 from rfl)).trans e8
      generalize frame sqT a0 us = fr at *
      exact val_ok (v := .bool false) (w' := w') (by go_simp) hG (Below.refl _ _) rfl
    · intro us w5 hG hV
      have e9 : us 9 = .bool false := hV 9 (by decide)
      subst ha0
      simp only [frame, sqT, fill]
      rw [e9]
      have HG := Lib.hid hG
      clear hV hl hG k0 k1 k5 e9 SM C1 C2 IE IF
      have wi := WI.out
      go_wp2_with fail
      go_roundw
      case rel => exact ⟨i + 1, by have := HI.out; omega, by go_num, HBW.out.trans (Below.mono HG.out HBW.out.size)⟩
      case measure => have := HI.out; simp [intOf]; omega
end Go.Proofs.Ytcnnpfjommiafaa.fgC

/-
  Whether packets may be, are whole; what they are cut into: the document's.
-/
namespace Go.Proofs.Ytcnnpfjommiafaa.fgC
open Go.ChangeShapes Go.WideShapes Go.ChangeAt Go.RowKit
open Go.Proofs.Ytcnnpfjommiafaa.memC Go.Proofs.Ytcnnpfjommiafaa.genC Go.Proofs.Ytcnnpfjommiafaa.butC Go.Proofs.Ytcnnpfjommiafaa.freeC Go.Proofs.Ytcnnpfjommiafaa.adC
open Go.Proofs.Ytcnnpfjommiafaa.pkC (Pkt pktL pktV pktT adrC)
set_option linter.unusedVariables false
theorem pkt_info {p : Pkt} (h : p.Ok) (A : Option Addr) (n c : Nat) : (Try.prog.info? 28).map (·.size) = some (pktV p A n c).size := by
  rw [show (pktV p A n c).size = 41 from (pkC.pkC h A n c).size]; kernel_rfl
theorem pkt_one (p : Pkt) (A : Option Addr) (n c : Nat) : (pktV p A n c).all (·.oneCell') = true := by
  unfold pktV
  rw [List.all_toArray]
  exact List.all_eq_true.2 (Pe.one (e := ⟨p, A, n, c, []⟩))
theorem rmay_fg (p : Pkt) (A : Option Addr) (n c : Nat) (xs : List Int) (w : World) (hp : p.Ok) (hl : xs.length = n) (hn : n ≤ 9223372036854775807) :
    Calls Try.prog 25 #[.agg (pktV p A n c)] w (Ret w (.bool (mayP (p, xs)))) := by
  obtain ⟨W, hW⟩ : ∃ W, W = w.alloc (.cells (pktV p A n c) 28) := ⟨_, rfl⟩
  have R := Lib.hid (show W.heap[w.heap.size]? = some (.cells (pktV p A n c) 28 (0, 0)) by rw [hW]; exact heap_alloc_new _ _)
  have HB := Lib.hid (show Below w.heap.size w W by rw [hW]; exact alloc_below _ _)
  have I := Lib.hid (pkt_info hp A n c)
  have p0 := pkC.PkC.cell R.out (show (pktV p A n c)[0]? = some (.bool p.s) from (pkC.pkC hp A n c).src 0 _ rfl)
  have M4 := Lib.hid (pkC.rmay_pkt p A n c W hp hn)
  have M6 := Lib.hid (sxC.rmay_any p A n c W hp hn)
  unfold mayP
  simp only [hl]
  cases hs : p.s
  · rw [if_neg (by decide)]
    rw [hs] at p0
    generalize pktV p A n c = C at *
    clear hs hp hl
    go_enter Try.func25, Try.ntmps25
    go_upto_region 1 with fail
    rw [← hW]
    clear hW
    go_wp2_with (first
      | (refine wpList_load_row rfl 28 (.tmp 1) rfl (w.heap.size) rfl _ _ _ _ R.out Try.underlying28 rfl I.out ?_)
      | (go_at_call 39; refine M4.out.mono ?_; rintro e w2 ⟨rfl, hb⟩; have HB2 := Lib.hid hb; clear hb))
    go_ret
    exact ⟨rfl, HB.out.trans (HB2.out.mono HB.out.size)⟩
  · rw [if_pos rfl]
    rw [hs] at p0
    generalize pktV p A n c = C at *
    clear hs hp hl
    go_enter Try.func25, Try.ntmps25
    go_upto_region 1 with fail
    rw [← hW]
    clear hW
    go_wp2_with (first
      | (refine wpList_load_row rfl 28 (.tmp 1) rfl (w.heap.size) rfl _ _ _ _ R.out Try.underlying28 rfl I.out ?_)
      | (go_at_call 38; refine M6.out.mono ?_; rintro e w2 ⟨rfl, hb⟩; have HB2 := Lib.hid hb; clear hb))
    go_ret
    exact ⟨rfl, HB.out.trans (HB2.out.mono HB.out.size)⟩
theorem rwhole_fg (p : Pkt) (A : Option Addr) (n c : Nat) (xs : List Int) (w : World) (hp : p.Ok) : Calls Try.prog 26 #[.agg (pktV p A n c)] w (Ret w (.bool (wholeP (p, xs)))) := by
  obtain ⟨W, hW⟩ : ∃ W, W = w.alloc (.cells (pktV p A n c) 28) := ⟨_, rfl⟩
  have R := Lib.hid (show W.heap[w.heap.size]? = some (.cells (pktV p A n c) 28 (0, 0)) by rw [hW]; exact heap_alloc_new _ _)
  have HB := Lib.hid (show Below w.heap.size w W by rw [hW]; exact alloc_below _ _)
  have p1 := pkC.PkC.cell R.out (pkC.pkC hp A n c).off
  have p2 := pkC.PkC.cell R.out (pkC.pkC hp A n c).more
  obtain ⟨V, hV⟩ : ∃ V, V = wholeP (p, xs) := ⟨_, rfl⟩
  rw [← hV]
  unfold wholeP at hV
  have HV := Lib.hid hV
  simp only at HV
  generalize pktV p A n c = C at *
  generalize p.off = of_ at *
  generalize p.more = mo at *
  clear hp hV R
  by_cases h0 : of_ = 0
  · have hv := Lib.hid (show V = !mo by rw [HV.out, decide_eq_true h0]; simp)
    have q : (of_ == 0) = true := beq_iff_eq.2 h0
    clear h0
    go_enter Try.func26, Try.ntmps26
    go_upto_region 1 with fail
    rw [← hW]
    clear hW
    go_wp2_with (first | go_skip)
    go_ret
    exact ⟨ret_bool hv.out.symm, HB.out⟩
  · have hv := Lib.hid (show V = false by rw [HV.out, decide_eq_false h0]; rfl)
    have q : (of_ == 0) = false := beq_eq_false_iff_ne.2 h0
    clear h0
    go_enter Try.func26, Try.ntmps26
    go_upto_region 1 with fail
    rw [← hW]
    clear hW
    go_wp2_with (first | go_skip)
    go_ret
    exact ⟨ret_bool hv.out.symm, HB.out⟩
theorem pkt_set {p : Pkt} (h : p.Ok) (A : Option Addr) (n c k : Nat) (v : Value) : (pktV p A n c).setIfInBounds (34 + k) v = (adrC p.s p.a ++ (adrC p.t p.b ++ (pktT p A n c).set k v)).toArray := by
  have l1 : (adrC p.s p.a).length = 17 := pkC.adrC_len h.la
  have l2 : (adrC p.t p.b).length = 17 := pkC.adrC_len h.lb
  unfold pktV pktL
  rw [List.setIfInBounds_toArray, List.set_append_right _ _ (by omega), l1, List.set_append_right _ _ (by omega), l2]
  congr 4
  omega
/-- a packet in a block that the call laid -/
structure Qb (w0 w : World) (g : Nat) (p : Pkt) (A : Option Addr) (n c : Nat) : Prop where
  row : w.heap[g]? = some (.cells (pktV p A n c) 28 (0, 0))
  bel : Below w0.heap.size w0 w
  lt : w0.heap.size ≤ g
  ok : p.Ok
section
variable {w0 w w' : World} {g : Nat} {p p' : Pkt} {A A' : Option Addr} {n c n' c' : Nat}
theorem Qb.set_ (h : Qb w0 w g p A n c) (k : Nat) (v : Value) (e : (pktT p A n c).set k v = pktT p' A' n' c') (hs : p'.s = p.s ∧ p'.a = p.a ∧ p'.t = p.t ∧ p'.b = p.b) (ho : p'.Ok) : Qb w0 (w.setCell ⟨g, 34 + k, none⟩ v) g p' A' n' c' := by
  refine ⟨?_, h.bel.setCell (p := ⟨g, 34 + k, none⟩) h.lt _, h.lt, ho⟩
  rw [heap_setCell_same w g (34 + k) _ _ _ h.row, pkt_set h.ok, e]
  unfold pktV pktL
  rw [hs.1, hs.2.1, hs.2.2.1, hs.2.2.2]
theorem Qb.cell (h : Qb w0 w g p A n c) (k : Nat) (v : Value) (hv : (pktT p A n c)[k]? = some v) : w.cell? ⟨g, 34 + k, none⟩ = some v := by
  refine pkC.PkC.cell h.row ?_
  unfold pktV
  rw [List.getElem?_toArray, pkC.pktL_tail h.ok.la h.ok.lb]; exact hv
theorem Qb.frozen (h : Qb w0 w g p A n c) (k : Nat) : w.frozen? ⟨g, 34 + k, none⟩ = false := frozen_of_row w g (34 + k) _ _ h.row
theorem Qb.below (h : Qb w0 w g p A n c) (hb : Below w.heap.size w w') : Qb w0 w' g p A n c := ⟨by rw [hb.block _ (Array.getElem?_eq_some_iff.1 h.row).1]; exact h.row, h.bel.trans (hb.mono h.bel.size), h.lt, h.ok⟩
end
theorem zPkt_infoK : (Try.prog.info? 28).map (·.zero) = some (some (.agg (pktV zPkt none 0 0))) := by kernel_rfl
theorem zeroPktK (w : World) : (zeroValue 28).run Try.prog w = .ok (.agg (pktV zPkt none 0 0)) w := by
  obtain ⟨i, hi, hz⟩ := Option.map_eq_some_iff.1 zPkt_infoK
  simp [zeroValue, typeInfo, hi, hz]
end Go.Proofs.Ytcnnpfjommiafaa.fgC

/-
  Regions that draw their order, in which some operations write (stores, appends), each waiting for the one before: a chain. All others only make memory, or read.
-/
namespace Go.Proofs.Ytcnnpfjommiafaa.freeC
open Go.ChangeShapes Go.WideShapes Go.ChangeAt Go.RowKit
set_option linter.unusedVariables false
section
variable {P : Program} {L : List Oper} {Q : Exit → Act → World → Prop}
/-- what is asked of an operation: of one that is no part of the chain C, that it makes memory alone; of the chain's p-th, that it leads from R p to R (p + 1) -/
def StepC (P : Program) (L : List Oper) (Q : Exit → Act → World → Prop) (tab : List (Option Nat)) (a : Act) (B : Nat) (C : List Nat) (G : World → Prop) (V : Nat → Value → World → Prop) (R : Nat → (Nat → Value) → World → Prop) (i : Nat) (o : Oper) : Prop :=
  ∀ (m : Nat → Bool) us w, B ≤ w.heap.size → G w → (∀ j, j ∉ C → m j = true → V j (us j) w) → doneB o m = true →
    (i ∉ C → if Region.wanted o (yielded L.toArray (frame tab a us).tmps) then o.wp P (frame tab a us) w (fun a' w' => ∃ v, a' = (frame tab a us).put o.dst v ∧ Below w.heap.size w w' ∧ V i v w') Q else V i undef w) ∧
    (∀ p, C[p]? = some i → R p us w → if Region.wanted o (yielded L.toArray (frame tab a us).tmps) then o.wp P (frame tab a us) w (fun a' w' => ∃ v, a' = (frame tab a us).put o.dst v ∧ Below B w w' ∧ R (p + 1) (upd us i v) w') Q else R (p + 1) (upd us i undef) w)
def links (L : List Oper) : List Nat → Bool
  | x :: y :: r => (match L[y]? with | some o => o.after.any fun e => Region.binds .any e && (e.on == x) | none => false) && links L (y :: r)
  | _ => true
theorem links_at {L : List Oper} : ∀ {C : List Nat}, links L C = true → ∀ p x y o, C[p]? = some x → C[p + 1]? = some y → L[y]? = some o → ∀ m, doneB o m = true → m x = true
  | [], _, p, x, y, o, h, _, _, _, _ => by simp at h
  | [z], _, p, x, y, o, _, h, _, _, _ => by simp at h
  | z :: z' :: r, hl, 0, x, y, o, h1, h2, ho, m, hd => by
    obtain rfl : z = x := by simpa using h1
    obtain rfl : z' = y := by simpa using h2
    simp only [links, Bool.and_eq_true, ho] at hl
    obtain ⟨e, he, h2⟩ := Array.any_eq_true'.1 hl.1
    simp only [Bool.and_eq_true, beq_iff_eq] at h2
    have h3 := Array.all_eq_true'.1 hd e he
    rw [h2.1, h2.2] at h3
    simpa using h3
  | z :: z' :: r, hl, p + 1, x, y, o, h1, h2, ho, m, hd => by
    simp only [links, Bool.and_eq_true] at hl
    exact links_at hl.2 p x y o (by simpa using h1) (by simpa using h2) ho m hd
theorem nodup_at {C : List Nat} (hnd : C.Nodup) {p q x : Nat} (hp : C[p]? = some x) (hq : C[q]? = some x) : p = q := by
  obtain ⟨hp1, hp2⟩ := List.getElem?_eq_some_iff.1 hp
  obtain ⟨hq1, hq2⟩ := List.getElem?_eq_some_iff.1 hq
  have h := List.pairwise_iff_getElem.1 hnd
  rcases Nat.lt_trichotomy p q with h1 | h1 | h1
  · exact absurd (hp2.trans hq2.symm) (h p q hp1 hq1 h1)
  · exact h1
  · exact absurd (hq2.trans hp2.symm) (h q p hq1 hp1 h1)
theorem wp_region_chain {id : Nat} {a : Act} {w : World} (hm : P.follows .mixedOrders = true) (tab : List (Option Nat)) (hb : backE L = true) (ht : slots tab L = true) (hl : tab.length = a.tmps.size)
    (us0 : Nat → Value) (ha : frame tab a us0 = a) (B : Nat) (C : List Nat) (hC : links L C = true) (hnd : C.Nodup) (hin : ∀ x ∈ C, x < L.length)
    (G : World → Prop) (V : Nat → Value → World → Prop) (R : Nat → (Nat → Value) → World → Prop) (hB : B ≤ w.heap.size) (hG : G w.drew) (h0 : R 0 us0 w.drew)
    (hkG : ∀ w w', B ≤ w.heap.size → Below B w w' → G w → G w') (hkV : ∀ i v w w', B ≤ w.heap.size → Below B w w' → V i v w → V i v w')
    (hkR : ∀ k us us' w w', (∀ x ∈ C, us' x = us x) → B ≤ w.heap.size → Below w.heap.size w w' → R k us w → R k us' w')
    (hstep : AllFrom (StepC P L Q tab a B C G V R) 0 L)
    (hend : ∀ us w, B ≤ w.heap.size → G w → (∀ i, i < L.length → i ∉ C → V i (us i) w) → R C.length us w → Q .normal (frame tab a us) w) : (Code.region id L.toArray true).wp P Q a w := by
  refine wp_region_free hm tab hb ht hl us0 ha (fun m us w => B ≤ w.heap.size ∧ G w ∧ (∀ j, j ∉ C → m j = true → V j (us j) w) ∧ ∃ k, k ≤ C.length ∧ (∀ j x, C[j]? = some x → (m x = true ↔ j < k)) ∧ R k us w)
    ⟨(by simpa using hB), hG, (fun j _ h => by cases h), 0, Nat.zero_le _, (fun j x _ => by simp), h0⟩ ?_ ?_
  · intro i o ho m us w' ⟨hb', hg, hv, k, hk, hcm, hr⟩ hmi hd
    have hs := all_from L 0 hstep i o ho m us w' hb' hg hv hd
    rw [Nat.zero_add] at hs
    by_cases hi : i ∈ C
    · obtain ⟨p, hp⟩ := List.getElem?_of_mem hi
      have hkp : k = p := by
        have h1 : ¬ p < k := fun h => by rw [(hcm p i hp).2 h] at hmi; cases hmi
        rcases Nat.eq_zero_or_pos p with h2 | h2
        · omega
        · obtain ⟨q, rfl⟩ : ∃ q, p = q + 1 := ⟨p - 1, by omega⟩
          have hq : q < C.length := by have := (List.getElem?_eq_some_iff.1 hp).1; omega
          have e := List.getElem?_eq_getElem hq
          have := (hcm q _ e).1 (links_at hC q _ i o e hp ho m hd)
          omega
      subst hkp
      have hs2 := hs.2 k hp hr
      have hset : ∀ v w'', Below B w' w'' → R (k + 1) (upd us i v) w'' → B ≤ w''.heap.size ∧ G w'' ∧ (∀ j, j ∉ C → upd m i true j = true → V j (upd us i v j) w'') ∧ ∃ k, k ≤ C.length ∧ (∀ j x, C[j]? = some x → (upd m i true x = true ↔ j < k)) ∧ R k (upd us i v) w'' := fun v w'' hb2 hr2 => by
        refine ⟨Nat.le_trans hb' hb2.size, hkG _ _ hb' hb2 hg, fun j hj hm' => ?_, k + 1, ?_, fun j x hx => ?_, hr2⟩
        · have hji : j ≠ i := fun e => hj (e ▸ hi)
          rw [upd_other _ _ hji] at hm' ⊢
          exact hkV _ _ _ _ hb' hb2 (hv j hj hm')
        · have := (List.getElem?_eq_some_iff.1 hp).1; omega
        · by_cases hx2 : x = i
          · subst hx2
            have hjk : j = k := nodup_at hnd hx hp
            rw [upd_same]; simp [hjk]
          · rw [upd_other _ _ hx2, hcm j x hx]
            have hjk : j ≠ k := fun e => by rw [e, hp] at hx; exact hx2 (Option.some.inj hx).symm
            omega
      split
      · rename_i hw
        rw [if_pos hw] at hs2
        refine Oper.wp_mono (fun a2 w2 h2 => ?_) hs2
        obtain ⟨v, ha, hb2, hr2⟩ := h2
        exact ⟨v, ha, hset v w2 hb2 hr2⟩
      · rename_i hw
        rw [if_neg hw] at hs2
        exact hset undef w' (Below.refl _ _) hs2
    · have hs1 := hs.1 hi
      have hset : ∀ v w'', Below w'.heap.size w' w'' → V i v w'' → B ≤ w''.heap.size ∧ G w'' ∧ (∀ j, j ∉ C → upd m i true j = true → V j (upd us i v j) w'') ∧ ∃ k, k ≤ C.length ∧ (∀ j x, C[j]? = some x → (upd m i true x = true ↔ j < k)) ∧ R k (upd us i v) w'' := fun v w'' hb2 hv2 => by
        have hb3 := hb2.mono hb'
        refine ⟨Nat.le_trans hb' hb2.size, hkG _ _ hb' hb3 hg, fun j hj hm' => ?_, k, hk, fun j x hx => ?_, hkR k us (upd us i v) w' w'' (fun x hx => ?_) hb' hb2 hr⟩
        · by_cases hji : j = i
          · subst hji; rw [upd_same]; exact hv2
          · rw [upd_other _ _ hji] at hm' ⊢
            exact hkV _ _ _ _ hb' hb3 (hv j hj hm')
        · have hxi : x ≠ i := fun e => hi (e ▸ List.mem_of_getElem? hx)
          rw [upd_other _ _ hxi]; exact hcm j x hx
        · have hxi : x ≠ i := fun e => hi (e ▸ hx)
          rw [upd_other _ _ hxi]
      split
      · rename_i hw
        rw [if_pos hw] at hs1
        refine Oper.wp_mono (fun a2 w2 h2 => ?_) hs1
        obtain ⟨v, ha, hb2, hv2⟩ := h2
        exact ⟨v, ha, hset v w2 hb2 hv2⟩
      · rename_i hw
        rw [if_neg hw] at hs1
        exact hset undef w' (Below.refl _ _) hs1
  · intro m us w' hm' ⟨hb', hg, hv, k, hk, hcm, hr⟩
    have hkl : k = C.length := by
      rcases Nat.lt_or_ge k C.length with h | h
      · have e := List.getElem?_eq_getElem h
        have := (hcm k _ e).1 (hm' _ (hin _ (List.getElem_mem h)))
        omega
      · omega
    subst hkl
    exact hend us w' hb' hg (fun i hi hc => hv i hc (hm' i hi)) hr
variable {o : Oper} {a : Act} {tab : List (Option Nat)} {B : Nat} {C : List Nat} {G : World → Prop} {V : Nat → Value → World → Prop} {R : Nat → (Nat → Value) → World → Prop} {i : Nat}
/-- an operation that only makes memory -/
theorem stepC_val (need : List Nat) (hn : needs o need = true) (hc : (need.all fun j => !C.contains j) = true) (hi : C.contains i = false) (hg : o.guard = none)
    (h : ∀ us w, B ≤ w.heap.size → G w → (∀ j, j ∈ need → V j (us j) w) → o.wp P (frame tab a us) w (fun a' w' => ∃ v, a' = (frame tab a us).put o.dst v ∧ Below w.heap.size w w' ∧ V i v w') Q) : StepC P L Q tab a B C G V R i o := by
  intro m us w hB hG hV hd
  have hiC : i ∉ C := fun e => by rw [List.contains_iff_mem.2 e] at hi; cases hi
  refine ⟨fun _ => ?_, fun p hp => absurd (List.mem_of_getElem? hp) hiC⟩
  rw [if_pos (show Region.wanted o (yielded L.toArray (frame tab a us).tmps) = true by simp [Region.wanted, hg])]
  exact h us w hB hG fun j hj => hV j (fun e => by have h1 := List.all_eq_true.1 hc j hj; rw [List.contains_iff_mem.2 e] at h1; cases h1) (need_ok hn hd j hj)
/-- .. behind a guard that says b, as is known -/
theorem stepC_guard (need : List Nat) (hn : needs o need = true) (hc : (need.all fun j => !C.contains j) = true) (hi : C.contains i = false) {j t : Nat} {b : Bool} (hg : o.guard = some (j, b)) (hj : j ∈ need) (hL : (L[j]?).bind (·.dst) = some t) (hl : tab.length = a.tmps.size) (ht : (tab[t]?).join = some j)
    (hv : ∀ v w, V j v w → v = .bool b)
    (h : ∀ us w, B ≤ w.heap.size → G w → (∀ j, j ∈ need → V j (us j) w) → o.wp P (frame tab a us) w (fun a' w' => ∃ v, a' = (frame tab a us).put o.dst v ∧ Below w.heap.size w w' ∧ V i v w') Q) : StepC P L Q tab a B C G V R i o := by
  intro m us w hB hG hV hd
  have hiC : i ∉ C := fun e => by rw [List.contains_iff_mem.2 e] at hi; cases hi
  have hV2 : ∀ j, j ∈ need → V j (us j) w := fun j hj => hV j (fun e => by have h1 := List.all_eq_true.1 hc j hj; rw [List.contains_iff_mem.2 e] at h1; cases h1) (need_ok hn hd j hj)
  refine ⟨fun _ => ?_, fun p hp => absurd (List.mem_of_getElem? hp) hiC⟩
  have hy := yield_at (L := L) (us := us) hl hL ht (hv _ _ (hV2 j hj))
  rw [if_pos (show Region.wanted o (yielded L.toArray (frame tab a us).tmps) = true by simp [Region.wanted, hg, hy])]
  exact h us w hB hG hV2
/-- .. that is not wanted -/
theorem stepC_skip (need : List Nat) (hn : needs o need = true) (hc : (need.all fun j => !C.contains j) = true) (hi : C.contains i = false) {j t : Nat} {b : Bool} (hg : o.guard = some (j, b)) (hj : j ∈ need) (hL : (L[j]?).bind (·.dst) = some t) (hl : tab.length = a.tmps.size) (ht : (tab[t]?).join = some j)
    (hv : ∀ v w, V j v w → v = .bool !b) (h : ∀ w, V i undef w) : StepC P L Q tab a B C G V R i o := by
  intro m us w hB hG hV hd
  have hiC : i ∉ C := fun e => by rw [List.contains_iff_mem.2 e] at hi; cases hi
  have hV2 : ∀ j, j ∈ need → V j (us j) w := fun j hj => hV j (fun e => by have h1 := List.all_eq_true.1 hc j hj; rw [List.contains_iff_mem.2 e] at h1; cases h1) (need_ok hn hd j hj)
  refine ⟨fun _ => ?_, fun p hp => absurd (List.mem_of_getElem? hp) hiC⟩
  have hy := yield_at (L := L) (us := us) hl hL ht (hv _ _ (hV2 j hj))
  rw [if_neg (by simp [Region.wanted, hg, hy])]
  exact h w
/-- the chain's p-th -/
theorem stepC_chain (p : Nat) (hp : C[p]? = some i) (hnd : C.Nodup) (need : List Nat) (hn : needs o need = true) (hc : (need.all fun j => !C.contains j) = true) (hg : o.guard = none)
    (h : ∀ us w, B ≤ w.heap.size → G w → (∀ j, j ∈ need → V j (us j) w) → R p us w → o.wp P (frame tab a us) w (fun a' w' => ∃ v, a' = (frame tab a us).put o.dst v ∧ Below B w w' ∧ R (p + 1) (upd us i v) w') Q) : StepC P L Q tab a B C G V R i o := by
  intro m us w hB hG hV hd
  refine ⟨fun hi => absurd (List.mem_of_getElem? hp) hi, fun q hq hr => ?_⟩
  have hqp : q = p := nodup_at hnd hq hp
  subst hqp
  rw [if_pos (show Region.wanted o (yielded L.toArray (frame tab a us).tmps) = true by simp [Region.wanted, hg])]
  exact h us w hB hG (fun j hj => hV j (fun e => by have h1 := List.all_eq_true.1 hc j hj; rw [List.contains_iff_mem.2 e] at h1; cases h1) (need_ok hn hd j hj)) hr
/-- .. behind a guard that says b, as is known -/
theorem stepC_chainG (p : Nat) (hp : C[p]? = some i) (hnd : C.Nodup) (need : List Nat) (hn : needs o need = true) (hc : (need.all fun j => !C.contains j) = true) {j t : Nat} {b : Bool} (hg : o.guard = some (j, b)) (hj : j ∈ need) (hL : (L[j]?).bind (·.dst) = some t) (hl : tab.length = a.tmps.size) (ht : (tab[t]?).join = some j)
    (hv : ∀ v w, V j v w → v = .bool b)
    (h : ∀ us w, B ≤ w.heap.size → G w → (∀ j, j ∈ need → V j (us j) w) → R p us w → o.wp P (frame tab a us) w (fun a' w' => ∃ v, a' = (frame tab a us).put o.dst v ∧ Below B w w' ∧ R (p + 1) (upd us i v) w') Q) : StepC P L Q tab a B C G V R i o := by
  intro m us w hB hG hV hd
  have hV2 : ∀ j, j ∈ need → V j (us j) w := fun j hj => hV j (fun e => by have h1 := List.all_eq_true.1 hc j hj; rw [List.contains_iff_mem.2 e] at h1; cases h1) (need_ok hn hd j hj)
  refine ⟨fun hi => absurd (List.mem_of_getElem? hp) hi, fun q hq hr => ?_⟩
  have hqp : q = p := nodup_at hnd hq hp
  subst hqp
  have hy := yield_at (L := L) (us := us) hl hL ht (hv _ _ (hV2 j hj))
  rw [if_pos (show Region.wanted o (yielded L.toArray (frame tab a us).tmps) = true by simp [Region.wanted, hg, hy])]
  exact h us w hB hG hV2 hr
variable {w w' : World} {K : Act → World → Prop}
/-- an operation that answers a value at once, in such a region -/
theorem val_C {fr : Act} {v : Value} (hr : (execOp fr.eval o).run P w = .ok (.value v) w') (hb : Below w.heap.size w w') (hV : V i v w') :
    o.wp P fr w (fun a' w' => ∃ v, a' = fr.put o.dst v ∧ Below w.heap.size w w' ∧ V i v w') Q := free_val hr ⟨v, rfl, hb, hV⟩
theorem load_C {fr : Act} (ty : TypeId) (s : Tmp) (ho : o.op = .load ty (.tmp s)) (g : Nat) (hx : fr.tmps[s]?.getD undef = .pointer (some ⟨g, 0, none⟩)) (t : TypeId) (cs : Array Value) (f : Nat × Nat) (d : TypeDesc) (hg : w.heap[g]? = some (.cells cs t f))
    (hu : P.underlying ty = some d) (hd : (match d with | .struct _ | .array _ _ => true | _ => false) = true) (hi : (P.info? ty).map (·.size) = some cs.size) (hV : V i (.agg cs) w) :
    o.wp P fr w (fun a' w' => ∃ v, a' = fr.put o.dst v ∧ Below w.heap.size w w' ∧ V i v w') Q :=
  wp_load_row ty (.tmp s) ho g (by simpa only [Act.eval, Array.getD_eq_getD_getElem?] using hx) t cs f d hg hu hd hi ⟨_, rfl, Below.refl _ _, hV⟩
theorem call_C {fr : Act} {f : FuncId} {args : Array Value} (hr : (execOp fr.eval o).run P w = .ok (.enter f args) w) (h : Calls P f args w fun e w' => ∃ v, e = .returned v ∧ Below w.heap.size w w' ∧ V i v w') :
    o.wp P fr w (fun a' w' => ∃ v, a' = fr.put o.dst v ∧ Below w.heap.size w w' ∧ V i v w') Q := free_call hr (h.mono fun e w' ⟨v, he, h2, h3⟩ => ⟨v, he, v, rfl, h2, h3⟩)
end
end Go.Proofs.Ytcnnpfjommiafaa.freeC

/-
  append as an operation of a region that draws its order; literals of numbers.
-/
namespace Go.Proofs.Ytcnnpfjommiafaa.freeC
open Go.ChangeShapes Go.WideShapes Go.ChangeAt Go.RowKit
open Go.Proofs.Ytcnnpfjommiafaa.memC
set_option linter.unusedVariables false
/-- append(own, numbers...) as an operation of a region that draws its order; the operands as they are -/
theorem append_Jo {P : Program} {Q : Exit → Act → World → Prop} {R : Value → World → Prop} {fr : Act} {o : Oper} {w : World} {kd : IntKind} (s x : Operand) (t : TypeId) (ho : o.op = .call { callee := .builtin .append, args := #[s, x], argTypes := #[t, t] })
    (e : TypeId) (i : TypeInfo) (z : Value) (bytes : Nat) (ht : P.underlying t = some (.slice e)) (hi : P.info? e = some i) (hz : i.zero = some z)
    (hsize : i.size = 1) (hby : i.bytes = bytes) (hzs : z.cells.size = 1) (base : Nat) (v : Value) (xs : List Int) (hs : fr.eval s = v) (hown : Own kd e w base v xs)
    (B : Nat) (A : Option Addr) (m c : Nat) (news : List Int) (hx : fr.eval x = .slice A m c) (hr : Nums kd w B A m news) (h63 : xs.length + m ≤ maxLen) (hbytes : (xs.length + m) * bytes ≤ 140737488355328) (hbase : base ≤ w.heap.size) (L : Nat) (hL : xs.length + m = L)
    (h : ∀ A' c' w', L ≤ c' → c' ≤ maxLen → Own kd e w' base (.slice A' L c') (xs ++ news) → Below base w w' → R (.slice A' L c') w') : o.wp P fr w (fun a' w' => ∃ v, a' = fr.put o.dst v ∧ R v w') Q := by
  obtain ⟨v', w', hrun, h2, h3⟩ := run_app (P := P) w t o.type e i z bytes ht hi hz hsize hby hzs base v xs hown B A m c news hr h63 hbytes hbase
  have e : (xs ++ news).length = L := by rw [List.length_append, hr.len]; exact hL
  obtain ⟨A', c', e2, g1, g2, N⟩ := h2.form
  rw [e] at e2 g1 N
  subst e2
  unfold Oper.wp execOp
  simp only [ho, resolve, invoke, builtin, Sem.run_bind, Sem.run_pure, Result.andThen_ok, List.map_toArray, List.map_cons, List.map_nil, hs, hx, hrun]
  exact ⟨_, rfl, h A' c' w' g1 g2 h2 (grown_below h3 hbase fun g hg => (hown.blk g hg).1)⟩
theorem eval_tmp {fr : Act} {s : Nat} {v : Value} (h : fr.tmps[s]?.getD undef = v) : fr.eval (.tmp s) = v := by simpa only [Act.eval, Array.getD_eq_getD_getElem?] using h
/-- a literal of numbers, just laid -/
theorem lit_nums (k : IntKind) (w : World) (xs : List Int) (T : TypeId) (C : Array Value) (hC : C = (xs.map (Value.int k)).toArray) (n : Nat) (hn : xs.length = n) :
    Nums k (w.alloc (.cells C T)) (w.heap.size + 1) (some ⟨w.heap.size, 0, none⟩) n xs := by
  subst hC
  refine ⟨hn, fun _ => ⟨_, 0, rfl, Nat.lt_succ_self _, fun i hi => ?_⟩⟩
  have hi2 : i < xs.length := by omega
  rw [cell_of_row _ w.heap.size (0 + i) _ _ (0, 0) (heap_alloc_new w _)]
  simp [List.getD_eq_getElem?_getD, hi2]
end Go.Proofs.Ytcnnpfjommiafaa.freeC

/-
  The sum of 16-bit numbers, and what passes 16 bits added below: plain mathematics.
-/
namespace Go.Proofs.Ytcnnpfjommiafaa.chkM
open Go.Proofs.Ytcnnpfjommiafaa.memC
set_option linter.unusedVariables false
def Byte (x : Int) : Prop := 0 ≤ x ∧ x ≤ 255
end Go.Proofs.Ytcnnpfjommiafaa.chkM

/-
  What the two Sums and Check do, of any parts.
-/
namespace Go.Proofs.Ytcnnpfjommiafaa.chkC
open Go.ChangeShapes Go.WideShapes Go.ChangeAt Go.RowKit
open Go.Proofs.Ytcnnpfjommiafaa.memC Go.Proofs.Ytcnnpfjommiafaa.chkM
set_option linter.unusedVariables false
/-- a part: a slice, and what it holds -/
structure Part where
  A : Option Addr
  n : Nat
  c : Nat
  bs : List Int
/-- a part that lies in memory below B -/
structure PartAt (w : World) (B : Nat) (p : Part) : Prop where
  nums : Nums .u8 w B p.A p.n p.bs
  few : p.n ≤ 10000
  byte : ∀ x ∈ p.bs, Byte x
theorem PartAt.heap {w w' : World} {B : Nat} {p : Part} (h : PartAt w B p) (e : w'.heap = w.heap) : PartAt w' B p := ⟨h.nums.heap e, h.few, h.byte⟩
theorem PartAt.below {w w' : World} {B B' : Nat} {p : Part} (h : PartAt w B p) (hb : Below B w w') (hB : B ≤ B') : PartAt w' B' p := ⟨(h.nums.below hb).more hB, h.few, h.byte⟩
/-- parts that lie in a row -/
structure Parts (w : World) (B : Nat) (P : Option Addr) (ps : List Part) : Prop where
  at_ : 0 < ps.length → ∃ b o, P = some ⟨b, o, none⟩ ∧ b < B ∧ ∀ i (h : i < ps.length), w.cell? ⟨b, o + i, none⟩ = some (.slice ps[i].A ps[i].n ps[i].c)
  all : ∀ p ∈ ps, PartAt w B p
end Go.Proofs.Ytcnnpfjommiafaa.chkC

/-
  Rows of parts that the call lays itself; what alive does; the walk of the second statement.
-/
namespace Go.Proofs.Ytcnnpfjommiafaa.chkC
open Go.ChangeShapes Go.WideShapes Go.ChangeAt Go.RowKit
open Go.Proofs.Ytcnnpfjommiafaa.memC Go.Proofs.Ytcnnpfjommiafaa.chkM
set_option linter.unusedVariables false
theorem alloc_below (w : World) (o : Obj) : Below w.heap.size w (w.alloc o) := (Below.refl _ _).alloc (Nat.le_refl _) _
theorem alloc_size (w : World) (o : Obj) : (w.alloc o).heap.size = w.heap.size + 1 := by simp
theorem PartAt.alloc {w : World} {p : Part} (h : PartAt w w.heap.size p) (o : Obj) : PartAt (w.alloc o) (w.alloc o).heap.size p := h.below (alloc_below w o) (alloc_below w o).size
theorem parts1 {w : World} {A : Option Addr} {n c : Nat} {bs : List Int} (h : PartAt w w.heap.size ⟨A, n, c, bs⟩) (T : TypeId) :
    Parts (w.alloc (.cells #[.slice A n c] T)) (w.alloc (.cells #[.slice A n c] T)).heap.size (some ⟨w.heap.size, 0, none⟩) [⟨A, n, c, bs⟩] := by
  refine ⟨fun _ => ⟨_, 0, rfl, by rw [alloc_size]; exact Nat.lt_succ_self _, fun i hi => ?_⟩, fun p hp => ?_⟩
  · obtain rfl : i = 0 := by simpa using hi
    simp [go_sem]
  · obtain rfl := List.mem_singleton.1 hp
    exact h.alloc _
end Go.Proofs.Ytcnnpfjommiafaa.chkC

/-
  A packet's bytes: the document's.
-/
namespace Go.Proofs.Ytcnnpfjommiafaa.pkC
open Go.ChangeShapes Go.WideShapes Go.ChangeAt Go.RowKit
open Go.Proofs.Ytcnnpfjommiafaa.memC Go.Proofs.Ytcnnpfjommiafaa.genC Go.Proofs.Ytcnnpfjommiafaa.butC Go.Proofs.Ytcnnpfjommiafaa.freeC Go.Proofs.Ytcnnpfjommiafaa.adC
set_option linter.unusedVariables false
/-- the call's own bytes, and an error -/
def OwnE (w : World) (bs : List Int) (er : Int) (e : Ending) (w' : World) : Prop := ∃ A n c, e = .returned (.tuple #[.slice A n c, .int .i64 er]) ∧ Own .u8 5 w' w.heap.size (.slice A n c) bs ∧ Below w.heap.size w w'
end Go.Proofs.Ytcnnpfjommiafaa.pkC

/-
  Numbers and addresses at places of some bytes: the program's.
-/
namespace Go.Proofs.Ytcnnpfjommiafaa.pkC
open Go.ChangeShapes Go.WideShapes Go.ChangeAt Go.RowKit
open Go.Proofs.Ytcnnpfjommiafaa.memC Go.Proofs.Ytcnnpfjommiafaa.genC Go.Proofs.Ytcnnpfjommiafaa.butC Go.Proofs.Ytcnnpfjommiafaa.freeC Go.Proofs.Ytcnnpfjommiafaa.adC
set_option linter.unusedVariables false
/-- b[f:e] -/
theorem cut_two (A : Option Addr) (n c f e : Nat) (h1 : f ≤ e) (h2 : e ≤ c) (w : World) :
    (Instr.slice 26 (.slice A n c) (some (.int .i64 (f : Int))) (some (.int .i64 (e : Int))) none).run Try.prog w = .ok (.slice (if c = f then A else A.map (·.add f)) (e - f) (c - f)) w := by
  have k1 : (f : Int) ≤ (e : Int) := by omega
  have k2 : (e : Int) ≤ (c : Int) := by omega
  by_cases h : c = f
  · subst h
    rw [if_pos rfl]
    go_simp
  · rw [if_neg h]
    go_simp
end Go.Proofs.Ytcnnpfjommiafaa.pkC

/-
  Whether a packet may be: the program's and the document's.
-/
namespace Go.Proofs.Ytcnnpfjommiafaa.sxC
open Go.ChangeShapes Go.WideShapes Go.ChangeAt Go.RowKit
open Go.Proofs.Ytcnnpfjommiafaa.memC Go.Proofs.Ytcnnpfjommiafaa.genC Go.Proofs.Ytcnnpfjommiafaa.adC Go.Proofs.Ytcnnpfjommiafaa.pkC Go.Proofs.Ytcnnpfjommiafaa.freeC
set_option linter.unusedVariables false
set_option maxRecDepth 100000 in
set_option maxHeartbeats 4000000 in
theorem cmay_any (p : Pkt) (A : Option Addr) (n c : Nat) (w : World) (hp : p.Ok) (hn : n ≤ 9223372036854775807) :
    Calls Try.prog 35 #[.agg (pktV p A n c)] w (Ret w (.bool (mayS p n))) := by
  obtain ⟨W, hW⟩ : ∃ W, W = w.alloc (.cells (pktV p A n c) 28) := ⟨_, rfl⟩
  have R0 := Lib.hid (show W.heap[w.heap.size]? = some (.cells (pktV p A n c) 28 (0, 0)) by rw [hW]; exact heap_alloc_new w _)
  have HB := Lib.hid (show Below w.heap.size w W by rw [hW]; exact alloc_below _ _)
  have c0 := pkC hp A n c
  have k0 : W.cell? ⟨w.heap.size, 0, none⟩ = some (.bool p.s) := PkC.cell R0.out (c0.src 0 (.bool p.s) rfl)
  have k17 : W.cell? ⟨w.heap.size, 17, none⟩ = some (.bool p.t) := PkC.cell R0.out (c0.dst 0 (.bool p.t) rfl)
  have k34 := PkC.cell R0.out c0.proto
  have k36 := PkC.cell R0.out c0.id
  have k37 := PkC.cell R0.out c0.whole
  have k38 := PkC.cell R0.out c0.more
  have k39 := PkC.cell R0.out c0.off
  have k40 := PkC.cell R0.out c0.load
  obtain ⟨V, hV⟩ : ∃ V, V = mayS p n := ⟨_, rfl⟩
  rw [← hV]
  unfold mayS at hV
  have hi := hp.id
  have ho := hp.off
  have KN := Lib.hid (header_any p.proto W)
  generalize knownB p.proto = kn at *
  generalize p.proto = proto1 at *
  generalize p.s = s1 at *
  generalize p.t = t1 at *
  generalize pktV p A n c = CP at *
  generalize p.id = id1 at *
  generalize p.whole = whole1 at *
  generalize p.more = more1 at *
  generalize p.off = off1 at *
  have HV := Lib.hid hV
  obtain ⟨hi0, hi1⟩ := hi
  obtain ⟨ho0, ho1⟩ := ho
  clear hp c0 hV
  go_enter Try.func35, Try.ntmps35
  go_upto_region 1 with fail
  rw [← hW]
  clear hW
  cases s1
  · have hv := Lib.hid (show V = false by rw [HV.out]; first | (simp [*]; done) | (simp [*]; omega))
    go_wp2_with (first
      | go_skip
      | (go_at_call 52; (refine KN.out.mono ?_); rintro e w2 ⟨rfl, rfl⟩))
    go_ret
    exact ⟨ret_bool hv.out.symm, HB.out⟩
  · cases t1
    · have hv := Lib.hid (show V = false by rw [HV.out]; first | (simp [*]; done) | (simp [*]; omega))
      go_wp2_with (first
        | go_skip
        | (go_at_call 52; (refine KN.out.mono ?_); rintro e w2 ⟨rfl, rfl⟩))
      go_ret
      exact ⟨ret_bool hv.out.symm, HB.out⟩
    · cases kn
      · by_cases h2 : off1 < 0
        · have g2 : ¬ 0 ≤ off1 := by omega
          have hv := Lib.hid (show V = false by rw [HV.out]; first | (simp [*]; done) | (simp [*]; omega))
          go_wp2_with (first
            | go_skip
            | (go_at_call 52; (refine KN.out.mono ?_); rintro e w2 ⟨rfl, rfl⟩))
          go_ret
          exact ⟨ret_bool hv.out.symm, HB.out⟩
        · have d2 : decide (off1 < 0) = false := decide_eq_false h2
          have g2 : 0 ≤ off1 := by omega
          by_cases h3 : ¬ off1 % 8 = 0
          · have d3 : (off1.tmod 8 == 0) = false := beq_eq_false_iff_ne.2 (by rw [Int.tmod_eq_emod_of_nonneg g2]; exact h3)
            have hv := Lib.hid (show V = false by rw [HV.out]; first | (simp [*]; done) | (simp [*]; omega))
            go_wp2_with (first
              | go_skip
              | (go_at_call 52; (refine KN.out.mono ?_); rintro e w2 ⟨rfl, rfl⟩))
            go_ret
            exact ⟨ret_bool hv.out.symm, HB.out⟩
          · have h3 : off1 % 8 = 0 := by omega
            have d3 : off1.tmod 8 = 0 := by rw [Int.tmod_eq_emod_of_nonneg g2]; exact h3
            by_cases h5 : 65527 - (n : Int) < off1
            · have g5 : ¬ off1 ≤ 65527 - (n : Int) := by omega
              have hv := Lib.hid (show V = false by rw [HV.out]; first | (simp [*]; done) | (simp [*]; omega))
              go_wp2_with (first
                | go_skip
                | (go_at_call 52; (refine KN.out.mono ?_); rintro e w2 ⟨rfl, rfl⟩))
              go_ret
              exact ⟨ret_bool hv.out.symm, HB.out⟩
            · have d5 : decide (65527 - (n : Int) < off1) = false := decide_eq_false h5
              have g5 : off1 ≤ 65527 - (n : Int) := by omega
              have wn : IntKind.i64.wrap (65527 - (n : Int)) = 65527 - (n : Int) := IntWalk.i64_in _ (by omega)
              cases more1
              · cases whole1
                · have hv := Lib.hid (show V = true by rw [HV.out]; first | (simp [*]; done) | (simp [*]; omega))
                  go_wp2_with (first
                    | go_skip
                    | (go_at_call 52; (refine KN.out.mono ?_); rintro e w2 ⟨rfl, rfl⟩))
                  go_ret
                  exact ⟨ret_bool hv.out.symm, HB.out⟩
                · by_cases h0 : off1 = 0
                  · by_cases h9 : id1 = 0
                    · have hv := Lib.hid (show V = true by rw [HV.out]; first | (simp [*]; done) | (simp [*]; omega))
                      go_wp2_with (first
                        | go_skip
                        | (go_at_call 52; (refine KN.out.mono ?_); rintro e w2 ⟨rfl, rfl⟩))
                      go_ret
                      exact ⟨ret_bool hv.out.symm, HB.out⟩
                    · have q9 : (id1 == 0) = false := beq_eq_false_iff_ne.2 h9
                      have hv := Lib.hid (show V = false by rw [HV.out]; first | (simp [*]; done) | (simp [*]; omega))
                      go_wp2_with (first
                        | go_skip
                        | (go_at_call 52; (refine KN.out.mono ?_); rintro e w2 ⟨rfl, rfl⟩))
                      go_ret
                      exact ⟨ret_bool hv.out.symm, HB.out⟩
                  · have q0 : (off1 == 0) = false := beq_eq_false_iff_ne.2 h0
                    have hv := Lib.hid (show V = false by rw [HV.out]; first | (simp [*]; done) | (simp [*]; omega))
                    go_wp2_with (first
                      | go_skip
                      | (go_at_call 52; (refine KN.out.mono ?_); rintro e w2 ⟨rfl, rfl⟩))
                    go_ret
                    exact ⟨ret_bool hv.out.symm, HB.out⟩
              · by_cases h8 : n % 8 = 0
                · have t8 : (n : Int).tmod 8 = 0 := by rw [Int.tmod_eq_emod_of_nonneg (by omega)]; omega
                  cases whole1
                  · have hv := Lib.hid (show V = true by rw [HV.out]; first | (simp [*]; done) | (simp [*]; omega))
                    go_wp2_with (first
                      | go_skip
                      | (go_at_call 52; (refine KN.out.mono ?_); rintro e w2 ⟨rfl, rfl⟩))
                    go_ret
                    exact ⟨ret_bool hv.out.symm, HB.out⟩
                  · have hv := Lib.hid (show V = false by rw [HV.out]; first | (simp [*]; done) | (simp [*]; omega))
                    go_wp2_with (first
                      | go_skip
                      | (go_at_call 52; (refine KN.out.mono ?_); rintro e w2 ⟨rfl, rfl⟩))
                    go_ret
                    exact ⟨ret_bool hv.out.symm, HB.out⟩
                · have t8 : ((n : Int).tmod 8 == 0) = false := beq_eq_false_iff_ne.2 (by rw [Int.tmod_eq_emod_of_nonneg (by omega)]; omega)
                  have hv := Lib.hid (show V = false by rw [HV.out]; first | (simp [*]; done) | (simp [*]; omega))
                  go_wp2_with (first
                    | go_skip
                    | (go_at_call 52; (refine KN.out.mono ?_); rintro e w2 ⟨rfl, rfl⟩))
                  go_ret
                  exact ⟨ret_bool hv.out.symm, HB.out⟩
      · have hv := Lib.hid (show V = false by rw [HV.out]; first | (simp [*]; done) | (simp [*]; omega))
        go_wp2_with (first
          | go_skip
          | (go_at_call 52; (refine KN.out.mono ?_); rintro e w2 ⟨rfl, rfl⟩))
        go_ret
        exact ⟨ret_bool hv.out.symm, HB.out⟩
end Go.Proofs.Ytcnnpfjommiafaa.sxC
