/-
  2 texts of a proof, joined.
-/
import Derived.Test.YtflfkhcbkhdahaaMg25
import Derived.Test.YtflfkhcbkhdahaaMg16
import Derived.Maps.AppendAt
import Derived.Great.BuildSlice

/-
  A key tuple is taken out of a row; one of a ring goes.
-/
namespace Go.Proofs.Ytflfkhcbkhdahaa.mkC
open Go.ChangeShapes Go.WideShapes Go.ChangeAt Go.RowKit
open Go.Proofs.Ytflfkhcbkhdahaa.memC Go.Proofs.Ytflfkhcbkhdahaa.genC Go.Proofs.Ytflfkhcbkhdahaa.butC Go.Proofs.Ytflfkhcbkhdahaa.freeC Go.Proofs.Ytflfkhcbkhdahaa.adC Go.Proofs.Ytflfkhcbkhdahaa.rtC
set_option linter.unusedVariables false
/-! ### reslices, clear -/
theorem cut3P (g n c i j : Nat) (hj : j = i + 1) (h1 : j ≤ n) (h2 : n ≤ c) : ∃ V, ∀ w, (Instr.slice 61 (.slice (some ⟨g, 0, none⟩) n c) (some (.int .i64 i)) (some (.int .i64 j)) (some (.int .i64 n))).run Try.prog w = .ok V w :=
  ⟨_, fun w => by rw [run_slice_lhm w 61 _ n c undP .i64 .i64 .i64 (i : Int) (j : Int) (n : Int) (by omega) (by omega) (by omega) (by omega), sizeP]; rfl⟩
theorem cutEP (g n c i : Nat) (h1 : i + 1 = n) (h2 : n ≤ c) (w : World) : (Instr.slice 61 (.slice (some ⟨g, 0, none⟩) i c) (some (.int .i64 i)) (some (.int .i64 n)) none).run Try.prog w = .ok (.slice (some ⟨g, i * 26, none⟩) 1 (c - i)) w := by
  rw [run_slice_lh w 61 _ i c undP .i64 .i64 (i : Int) (n : Int) (by omega) (by omega) (by omega), sizeP]
  have h3 : ¬ c = i := by omega
  subst h1
  simp [sliced, Result.andThen, h3, memC.add_plain]
theorem zeroCellsP (C : Array Value) : (Builtin.zeroCells C 1).toList = C.toList := by
  apply List.ext_getElem
  · simp [Builtin.zeroCells]
  · intro i h1 h2
    simp [Builtin.zeroCells] at h1 ⊢
    rw [Nat.mod_eq_of_lt h1, getElem!_pos C i h1]
/-- clear of one key tuple -/
theorem wpList_clearP {ops : Array Oper} {rest : List Oper} {o : Oper} {a : Act} {w : World} {Q : Exit → Act → World → Prop} (hgd : o.guard = none) (x : Operand) (ho : o.op = .call { callee := .builtin .clear, args := #[x], argTypes := #[61] })
    (g q c : Nat) (hx : a.eval x = .slice (some ⟨g, q, none⟩) 1 c) (t : TypeId) (old : Array Value) (hg : w.heap[g]? = some (.cells old t (0, 0))) (hq : q + 26 ≤ old.size)
    (h : wpList Try.prog ops Q rest (a.put o.dst (.tuple #[])) (w.setRow g (old.toList.take q ++ ktL zKt none 0 0 ++ old.toList.drop (q + 26)).toArray)) : wpList Try.prog ops Q (o :: rest) a w := by
  have hl : (ktV zKt none 0 0).toList.length = 26 := by unfold ktV; exact ktL_len zKt_ok
  have hst := run_storeCells_at (P := Try.prog) g q t (ktV zKt none 0 0).toList 0 old w hg (by rw [hl]; omega) (fun v hv => kt_one v hv)
  rw [hl] at hst
  refine wpList_plain hgd fun K hK => ?_
  unfold Oper.wp execOp
  have hz := zeroPk w
  have hc : (Value.agg (ktV zKt none 0 0)).cells = ktV zKt none 0 0 := rfl
  simp only [ho, resolve, invoke, builtin, Builtin.clear_, Sem.run_bind, Sem.run_pure, Result.andThen_ok, List.map_toArray, List.map_cons, List.map_nil, hx]
  simp [run_underlying Try.underlying61, hz, hc, zeroCellsP, Result.andThen_ok]
  simp only [Nat.add_zero] at hst
  rw [hst]
  exact hK _ _ h
/-! ### append where there is room -/
def spl (cur : Array Value) (k : Nat) (news : List Value) : Array Value := (cur.toList.take k ++ news ++ cur.toList.drop (k + news.length)).toArray
theorem spl_size {cur : Array Value} {k : Nat} {news : List Value} (h : k + news.length ≤ cur.size) : (spl cur k news).size = cur.size := by
  unfold spl
  have : cur.toList.length = cur.size := rfl
  rw [List.size_toArray, List.length_append, List.length_append, List.length_take, List.length_drop]
  omega
theorem spl_take {cur : Array Value} {k m : Nat} {news : List Value} (h : k + news.length ≤ cur.size) (hm : m = k + news.length) : (spl cur k news).toList.take m = cur.toList.take k ++ news := by
  unfold spl
  have : cur.toList.length = cur.size := rfl
  rw [hm, List.take_append_of_le_length (by rw [List.length_append, List.length_take]; omega), List.take_of_length_le (by rw [List.length_append, List.length_take]; omega)]
theorem room_J {R : Value → World → Prop} {fr : Act} {o : Oper} {w : World} {Q : Exit → Act → World → Prop} (s x : Operand) (ho : o.op = .call { callee := .builtin .append, args := #[s, x], argTypes := #[61, 61] })
    (g i c : Nat) (cur : Array Value) (hs : fr.eval s = .slice (some ⟨g, 0, none⟩) i c) (hg : w.heap[g]? = some (.cells cur 49 (0, 0))) (a : Addr) (m c' : Nat) (news : List Value) (hx : fr.eval x = .slice (some a) m c') (hl : news.length = m * 26) (hnews : ∀ j u, news[j]? = some u → w.cell? (a.add j) = some u) (h1 : ∀ u ∈ news, u.oneCell' = true)
    (hroom : i + m ≤ c) (hfit : i * 26 + news.length ≤ cur.size) (k : Nat) (hk : i + m = k) (h : R (.slice (some ⟨g, 0, none⟩) k c) (w.setRow g (spl cur (i * 26) news))) : o.wp Try.prog fr w (fun a' w' => ∃ v, a' = fr.put o.dst v ∧ R v w') Q := by
  obtain ⟨t, ht, hs2⟩ := Option.map_eq_some_iff.1 pk_info
  have hrun := run_append_room (P := Try.prog) w 61 o.type 49 t Try.underlying61 ht g i c cur hg a m c' news (by rw [hs2]; exact hl) hnews h1 hroom (by rw [hs2]; exact hfit)
  rw [hs2, hk] at hrun
  unfold Oper.wp execOp
  simp only [ho, resolve, invoke, builtin, Sem.run_bind, Sem.run_pure, Result.andThen_ok, List.map_toArray, List.map_cons, List.map_nil, hs, hx, hrun]
  exact ⟨_, rfl, h⟩
/-- how far it is: before; it is appended; it is put -/
def deR (w0 : World) (g n c i : Nat) (cur : Array Value) (news : List Value) : Nat → (Nat → Value) → World → Prop
  | 0, us, w => us 7 = .slice (some ⟨g, 0, none⟩) n c ∧ w.heap[g]? = some (.cells cur 49 (0, 0)) ∧ But g w0 w
  | 1, us, w => us 7 = .slice (some ⟨g, 0, none⟩) n c ∧ us 6 = .slice (some ⟨g, 0, none⟩) (n - 1) c ∧ w.heap[g]? = some (.cells (spl cur (i * 26) news) 49 (0, 0)) ∧ But g w0 w
  | 2, us, w => us 7 = .slice (some ⟨g, 0, none⟩) (n - 1) c ∧ w.heap[g]? = some (.cells (spl cur (i * 26) news) 49 (0, 0)) ∧ But g w0 w
  | _, _, _ => True
theorem deR.keep (w0 : World) (g n c i : Nat) (cur : Array Value) (news : List Value) (k : Nat) (us us' : Nat → Value) (w w' : World) (h : ∀ x ∈ [6, 7], us' x = us x) (hb : Below w.heap.size w w') (hR : deR w0 g n c i cur news k us w) : deR w0 g n c i cur news k us' w' := by
  have hk : ∀ {g : Nat} {ob : Obj}, w.heap[g]? = some ob → w'.heap[g]? = some ob := fun h9 => (hb.block _ (Array.getElem?_eq_some_iff.1 h9).1).trans h9
  have h6 := h 6 (by simp)
  have h7 := h 7 (by simp)
  unfold deR at hR ⊢
  split at hR
  · exact ⟨h7.trans hR.1, hk hR.2.1, hR.2.2.trans (But.below hb)⟩
  · exact ⟨h7.trans hR.1, h6.trans hR.2.1, hk hR.2.2.1, hR.2.2.2.trans (But.below hb)⟩
  · exact ⟨h7.trans hR.1, hk hR.2.1, hR.2.2.trans (But.below hb)⟩
  · trivial
def deV (g n c i j : Nat) : Nat → Value → World → Prop
  | 0, v, _ => v = .slice (some ⟨g, 0, none⟩) n c
  | 1, v, _ => v = .int .i64 (i : Int)
  | 2, v, _ => v = .slice (some ⟨g, 0, none⟩) i c
  | 3, v, _ => v = .slice (some ⟨g, 0, none⟩) n c
  | 4, v, _ => v = .int .i64 (j : Int)
  | 5, v, _ => v = .slice (some (if c = j then ⟨g, 0, none⟩ else ⟨g, 0 + j * 26, none⟩)) (n - j) (c - j)
  | _, _, _ => True
theorem deV.keep (g n c i j : Nat) (q9 : Nat) (v : Value) (w w' : World) (hd : Below w.heap.size w w' ∨ (fun _ _ => True) w w') (h : deV g n c i j q9 v w) : deV g n c i j q9 v w' := by
  unfold deV at h ⊢
  split at h <;> exact h
def deT : List (Option Nat) := [some 7, none, none, none, none, none, none, none, none, none, none, none, none, none, none, none, none, none, none, none, some 0, some 1, some 2, some 3, some 4, some 5, some 6, none, none, none, none, none, none]
set_option maxRecDepth 100000 in
set_option maxHeartbeats 4000000 in
theorem del_any (g n c i j : Nat) (es : List Ke) (w0 : World) (h : OwnP w0 0 (.slice (some ⟨g, 0, none⟩) n c) es) (hok : ∀ e ∈ es, e.L.length = 26) (hn : es.length = n) (hj : j = i + 1) (hi : j ≤ n) (hn2 : n ≤ 1000) :
    Calls Try.prog 29 #[.slice (some ⟨g, 0, none⟩) n c, .int .i64 i, .int .i64 j] w0 fun e w' => e = .returned (.slice (some ⟨g, 0, none⟩) (n - 1) c) ∧ OwnP w' 0 (.slice (some ⟨g, 0, none⟩) (n - 1) c) (es.take i ++ es.drop j) ∧ But g w0 w' := by
  rcases h.2 with ⟨e, -⟩ | ⟨g', cap, cur, e, -, hh, hl, hm, hs, ht⟩
  · cases e
  · injection e with e1 e2 e3
    injection e1 with e1
    injection e1 with e1
    subst e1
    subst e3
    rw [hn] at ht hl
    have hrow : RowK w0 0 w0.heap.size (some ⟨g, 0, none⟩) n es := by
      obtain ⟨A', cap, e, -, -, hr⟩ := h.form hok
      injection e with e1 e2 e3
      subst e1
      rw [hn] at hr
      exact hr
    obtain ⟨news, hnews⟩ : ∃ l, l = flatK (es.drop j) := ⟨_, rfl⟩
    have hokd : ∀ e ∈ es.drop j, e.L.length = 26 := fun e he => hok e (List.mem_of_mem_drop he)
    have HNL := Lib.hid (show news.length = (n - j) * 26 by rw [hnews, flatK_len hokd, List.length_drop, hn])
    have HN1 := Lib.hid (show ∀ u ∈ news, u.oneCell' = true by rw [hnews]; exact flatK_one _)
    have hfit : i * 26 + news.length + 26 = n * 26 := by have := HNL.out; omega
    have HFIT := Lib.hid (show i * 26 + news.length ≤ cur.size by rw [hs]; omega)
    have HCL := Lib.hid (show (n - 1) * 26 + 26 ≤ (spl cur (i * 26) news).size by rw [spl_size HFIT.out, hs]; omega)
    have HNEW := Lib.hid (fun (w' : World) (a1 : w'.heap[g]? = some (.cells cur 49 (0, 0))) => (show ∀ q u, news[q]? = some u → w'.cell? ((if c = j then (⟨g, 0, none⟩ : Addr) else ⟨g, 0 + j * 26, none⟩).add q) = some u by
      intro q u hu
      have hq : q < news.length := (List.getElem?_eq_some_iff.1 hu).1
      have hcj : ¬ c = j := fun e => by have := HNL.out; omega
      rw [if_neg hcj, memC.add_plain, cell_of_row w' g _ _ _ (0, 0) a1]
      rw [hnews] at hu
      have h3 : (flatK es)[0 + j * 26 + q]? = some u := by
        have hd : flatK es = flatK (es.take j) ++ flatK (es.drop j) := by rw [← flatK_append, List.take_append_drop]
        have hlt : (flatK (es.take j)).length = j * 26 := by rw [flatK_len fun e he => hok e (List.mem_of_mem_take he), List.length_take, hn]; rw [Nat.min_eq_left hi]
        rw [hd, List.getElem?_append_right (by omega), hlt, show 0 + j * 26 + q - j * 26 = q by omega]
        exact hu
      rw [← ht, List.getElem?_take_of_lt (by omega)] at h3
      simpa using h3))
    have HJ := Lib.hid (show j = i + 1 ∧ i ≤ c ∧ j ≤ n ∧ n ≤ c ∧ i + (n - j) ≤ c ∧ i + (n - j) = n - 1 from ⟨hj, by omega, hi, hl, by omega, by omega⟩)
    have HS := Lib.hid (And.intro hs (And.intro hfit (And.intro ht (And.intro hm hn2))))
    have HNE := Lib.hid (And.intro hnews (And.intro hn hokd))
    have HOK := Lib.hid hok
    obtain ⟨V3, h3⟩ := cut3P g n c i j hj hi hl
    have hE : ∀ w', (Instr.slice 61 (.slice (some ⟨g, 0, none⟩) (n - 1) c) (some (.int .i64 ((n - 1 : Nat) : Int))) (some (.int .i64 (n : Int))) none).run Try.prog w' = .ok (.slice (some ⟨g, (n - 1) * 26, none⟩) 1 (c - (n - 1))) w' := fun w' => cutEP g n c (n - 1) (by omega) hl w'
    have q1 : ((i : Int) == (j : Int)) = false := beq_eq_false_iff_ne.2 (by omega)
    have HROW := Lib.hid hh
    clear h hok hn hj hi hn2 hh hl hm hs ht hrow hnews hokd hfit e2
    go_enter Try.func29, Try.ntmps29
    go_upto_region 5 with fail
    clear h3 q1
    refine with_act fun a0 ha0 => ?_
    have hl : deT.length = a0.tmps.size := by rw [ha0]; rfl
    have k0 : a0.tmps[0]?.getD undef = .slice (some ⟨g, 0, none⟩) n c := by rw [ha0]; rfl
    have k1 : a0.tmps[1]?.getD undef = .int .i64 (i : Int) := by rw [ha0]; rfl
    have k2 : a0.tmps[2]?.getD undef = .int .i64 (j : Int) := by rw [ha0]; rfl
    refine wp_region_che (by kernel_rfl) deT (by kernel_rfl) (by kernel_rfl) hl (fun q => if q = 7 then .slice (some ⟨g, 0, none⟩) n c else a0.tmps[q + 20]?.getD undef) (by rw [ha0]; rfl) (0) (fun _ _ => True) [6, 7] (by kernel_rfl) (by decide) (by decide) (fun _ => True) (deV g n c i j) (deR w0 g n c i cur news) (Nat.zero_le _) trivial ⟨rfl, HROW.out, But.below (Below.refl _ _).drew⟩ (fun _ _ _ _ h => h) (fun i v w w' _ _ h => deV.keep _ _ _ _ _ i v w w' (.inr trivial) h) (fun k us us' w w' h _ hb hR => deR.keep _ _ _ _ _ _ _ k us us' w w' h hb hR) ⟨?_, ?_, ?_, ?_, ?_, ?_, ?_, ?_, trivial⟩ ?_
    · refine stepE_early 0 1 (.inl rfl) (.inr ⟨_, _, rfl, rfl, by kernel_rfl⟩) [] (by kernel_rfl) (by decide) (by decide) rfl fun us w' k hB hG hV hk hR => ?_
      skip
      have e7 : us 7 = .slice (some ⟨g, 0, none⟩) n c := by
        obtain ⟨h1, h2⟩ := hk
        match k, h1, h2, hR with
        | 0, _, _, hR => exact hR.1
        | 1, _, _, hR => exact hR.1
      have o0 := (frame_at2 (us := us) hl (show (deT[0]?).join = some 7 from rfl)).trans e7
      generalize frame deT a0 us = fr at *
      exact val_C (v := .slice (some ⟨g, 0, none⟩) n c) (w' := w') (by go_simp) (Below.refl _ _) rfl
    · refine stepE_val [] (by kernel_rfl) (by decide) (by decide) rfl fun us w' hB hG hV => ?_
      have o1 := (frame_old2 (us := us) (a := a0) (show (deT[1]?).join = none from rfl)).trans k1
      generalize frame deT a0 us = fr at *
      exact val_C (v := .int .i64 (i : Int)) (w' := w') (by go_simp) (Below.refl _ _) rfl
    · refine stepE_val [0, 1] (by kernel_rfl) (by decide) (by decide) rfl fun us w' hB hG hV => ?_
      have e0 : us 0 = .slice (some ⟨g, 0, none⟩) n c := hV 0 (by simp)
      have v0 := (frame_at2 (us := us) hl (show (deT[20]?).join = some 0 from rfl)).trans e0
      have e1 : us 1 = .int .i64 (i : Int) := hV 1 (by simp)
      have v1 := (frame_at2 (us := us) hl (show (deT[21]?).join = some 1 from rfl)).trans e1
      generalize frame deT a0 us = fr at *
      exact val_C (v := .slice (some ⟨g, 0, none⟩) i c) (w' := w') (run_upP rfl v0 v1 HJ.out.2.1) (Below.refl _ _) rfl
    · refine stepE_early 0 1 (.inl rfl) (.inr ⟨_, _, rfl, rfl, by kernel_rfl⟩) [] (by kernel_rfl) (by decide) (by decide) rfl fun us w' k hB hG hV hk hR => ?_
      skip
      have e7 : us 7 = .slice (some ⟨g, 0, none⟩) n c := by
        obtain ⟨h1, h2⟩ := hk
        match k, h1, h2, hR with
        | 0, _, _, hR => exact hR.1
        | 1, _, _, hR => exact hR.1
      have o0 := (frame_at2 (us := us) hl (show (deT[0]?).join = some 7 from rfl)).trans e7
      generalize frame deT a0 us = fr at *
      exact val_C (v := .slice (some ⟨g, 0, none⟩) n c) (w' := w') (by go_simp) (Below.refl _ _) rfl
    · refine stepE_val [] (by kernel_rfl) (by decide) (by decide) rfl fun us w' hB hG hV => ?_
      have o2 := (frame_old2 (us := us) (a := a0) (show (deT[2]?).join = none from rfl)).trans k2
      generalize frame deT a0 us = fr at *
      exact val_C (v := .int .i64 (j : Int)) (w' := w') (by go_simp) (Below.refl _ _) rfl
    · refine stepE_val [3, 4] (by kernel_rfl) (by decide) (by decide) rfl fun us w' hB hG hV => ?_
      have e3 : us 3 = .slice (some ⟨g, 0, none⟩) n c := hV 3 (by simp)
      have v3 := (frame_at2 (us := us) hl (show (deT[23]?).join = some 3 from rfl)).trans e3
      have e4 : us 4 = .int .i64 (j : Int) := hV 4 (by simp)
      have v4 := (frame_at2 (us := us) hl (show (deT[24]?).join = some 4 from rfl)).trans e4
      generalize frame deT a0 us = fr at *
      exact val_C (v := .slice (some (if c = j then ⟨g, 0, none⟩ else ⟨g, 0 + j * 26, none⟩)) (n - j) (c - j)) (w' := w') (run_downP rfl v3 v4 HJ.out.2.2.1 HJ.out.2.2.2.1) (Below.refl _ _) rfl
    · refine stepE_chain 0 rfl (by decide) [2, 5] (by kernel_rfl) (by decide) rfl fun us w' hB hG hV hR => ?_
      have e2 : us 2 = .slice (some ⟨g, 0, none⟩) i c := hV 2 (by simp)
      have v2 := (frame_at2 (us := us) hl (show (deT[22]?).join = some 2 from rfl)).trans e2
      have e5 : us 5 = .slice (some (if c = j then ⟨g, 0, none⟩ else ⟨g, 0 + j * 26, none⟩)) (n - j) (c - j) := hV 5 (by simp)
      have v5 := (frame_at2 (us := us) hl (show (deT[25]?).join = some 5 from rfl)).trans e5
      obtain ⟨a0', a1, a2⟩ := (show us 7 = .slice (some ⟨g, 0, none⟩) n c ∧ w'.heap[g]? = some (.cells cur 49 (0, 0)) ∧ But g w0 w' from hR)
      have hn := HNEW.out w' a1
      generalize frame deT a0 us = fr at *
      exact room_J (R := fun v w'' => (True ∧ Below 0 w' w'') ∧ deR w0 g n c i cur news 1 (upd us 6 v) w'') (.tmp 22) (.tmp 25) rfl g i c cur (eval_tmp v2) a1 _ (n - j) (c - j) news (eval_tmp v5) HNL.out hn HN1.out HJ.out.2.2.2.2.1 HFIT.out (n - 1) HJ.out.2.2.2.2.2 ⟨⟨trivial, ⟨rfl, rfl, rfl, by simp, fun q hq => absurd hq (Nat.not_lt_zero q)⟩⟩, (upd_other _ _ (by decide)).trans a0', upd_same _ _ _, setRow_heap _ _ _ _ _ _ a1, a2.setRow _⟩
    · refine stepE_chain 1 rfl (by decide) [] (by kernel_rfl) (by decide) rfl fun us w' hB hG hV hR => ?_
      obtain ⟨-, e6, a1, a2⟩ := (show us 7 = .slice (some ⟨g, 0, none⟩) n c ∧ us 6 = .slice (some ⟨g, 0, none⟩) (n - 1) c ∧ w'.heap[g]? = some (.cells (spl cur (i * 26) news) 49 (0, 0)) ∧ But g w0 w' from hR)
      have v6 := (frame_at2 (us := us) hl (show (deT[26]?).join = some 6 from rfl)).trans e6
      generalize frame deT a0 us = fr at *
      exact val_J (R := fun v w'' => (True ∧ Below 0 w' w'') ∧ deR w0 g n c i cur news 2 (upd us 7 v) w'') (v := .slice (some ⟨g, 0, none⟩) (n - 1) c) (w' := w') (by go_simp) ⟨⟨trivial, Below.refl _ _⟩, upd_same _ _ _, a1, a2⟩
    · intro us w2 hB hG hV hR
      obtain ⟨e7, a1, a2⟩ := (show us 7 = .slice (some ⟨g, 0, none⟩) (n - 1) c ∧ w2.heap[g]? = some (.cells (spl cur (i * 26) news) 49 (0, 0)) ∧ But g w0 w2 from hR)
      subst ha0
      simp only [frame, deT, fill]
      rw [e7]
      have HA1 := Lib.hid a1
      have HA2 := Lib.hid a2
      clear hV hR hG hl k0 k1 k2 e7 a1 a2 hB
      have HE := Lib.hid hE
      generalize hn1 : n - 1 = n1 at *
      have HN1' := Lib.hid hn1
      clear hE hn1
      have hE := HE.out
      clear HE
      go_wp2_with (refine wpList_clearP rfl (.tmp 31) rfl g (n1 * 26) (c - n1) rfl _ _ HA1.out HCL.out ?_)
      go_ret
      refine ⟨?_, ?_, HA2.out.setRow _⟩
      · show Ending.returned (Value.slice (some ⟨g, 0, none⟩) n1 c) = Ending.returned (Value.slice (some ⟨g, 0, none⟩) (n - 1) c)
        rw [HN1'.out]
      rw [HN1'.out]
      refine ⟨?_, .inr ⟨g, c, _, ?_, Nat.zero_le _, setRow_heap _ _ _ _ _ _ HA1.out, ?_, HS.out.2.2.2.1, ?_, ?_⟩⟩
      · rw [flatK_len fun e he => ?_]
        rcases List.mem_append.1 he with h | h
        · exact HOK.out e (List.mem_of_mem_take h)
        · exact HNE.out.2.2 e h
      · have : (es.take i ++ es.drop j).length = n1 := by rw [List.length_append, List.length_take, List.length_drop]; have := HNE.out.2.1; have := HJ.out; have := HN1'.out; omega
        rw [this]
      · have : (es.take i ++ es.drop j).length = n1 := by rw [List.length_append, List.length_take, List.length_drop]; have := HNE.out.2.1; have := HJ.out; have := HN1'.out; omega
        rw [this]
        have := HJ.out
        have := HN1'.out
        omega
      · rw [List.size_toArray, List.length_append, List.length_append, List.length_take, List.length_drop, ktL_len zKt_ok]
        have h1 := HCL.out
        rw [spl_size HFIT.out, HS.out.1] at h1
        have h2 : (spl cur (i * 26) news).toList.length = c * 26 := by rw [Array.length_toList, spl_size HFIT.out, HS.out.1]
        rw [h2]
        omega
      · have h0 : (es.take i ++ es.drop j).length = n1 := by rw [List.length_append, List.length_take, List.length_drop]; have := HNE.out.2.1; have := HJ.out; have := HN1'.out; omega
        rw [h0]
        have h1 := HCL.out
        have h2 : (spl cur (i * 26) news).toList.length = (spl cur (i * 26) news).size := rfl
        have h3 := HS.out.2.1
        have h4 := HJ.out
        have h5 := HN1'.out
        have e9 : ∀ l : List Value, l.toArray.toList = l := fun _ => rfl
        rw [e9]
        try rw [List.append_assoc]
        rw [List.take_append_of_le_length (by rw [List.length_take]; omega), List.take_take, Nat.min_self, spl_take HFIT.out (by omega), flatK_append, ← HNE.out.1]
        congr 1
        have h6 : flatK es = flatK (es.take i) ++ flatK (es.drop i) := by rw [← flatK_append, List.take_append_drop]
        have h7 : (flatK (es.take i)).length = i * 26 := by rw [flatK_len fun e he => HOK.out e (List.mem_of_mem_take he), List.length_take, HNE.out.2.1]; rw [Nat.min_eq_left (by omega)]
        have h8 := HS.out.2.2.1
        have h9 : cur.toList.take (i * 26) = (cur.toList.take (n * 26)).take (i * 26) := by rw [List.take_take, Nat.min_eq_left (by omega)]
        rw [h9, h8, h6, List.take_append_of_le_length (by omega), List.take_of_length_le (by omega)]
theorem but_size {g : Nat} {w w' : World} (h : But g w w') : w.heap.size ≤ w'.heap.size := h.size
set_option maxRecDepth 100000 in
set_option maxHeartbeats 4000000 in
theorem drop_any (w : World) (S : Nat → Prop) (t : Nat) (rg : Rg) (m : Int) (h : Tb w S t rg) (hinv : Inv rg) : Calls Try.prog 10 #[.pointer (some ⟨t, 0, none⟩), .int .i64 m] w (TurnR Tb w S t (.int .i64 (dropErr rg m)) (dropR rg m)) := by
  obtain ⟨A, n, c, es, H⟩ := h
  have h32 := H.le32 hinv
  obtain ⟨W, hW⟩ : ∃ W, W = w.alloc (.cells #[.int .i64 m] 3) := ⟨_, rfl⟩
  have HB := Lib.hid (show Below w.heap.size w W by rw [hW]; exact alloc_below _ _)
  have RX := Lib.hid (show W.heap[w.heap.size]? = some (.cells #[.int .i64 m] 3 (0, 0)) by rw [hW]; exact heap_alloc_new _ _)
  have H1 := H.below HB.out
  have HT := Lib.hid H1
  have HL := Lib.hid (And.intro H1.len h32)
  have MD := Lib.hid (made_any H1)
  have c1 := H1.c1
  have IN := Lib.hid (index_drop1 m w.heap.size A 0 n c es W H1.rowK (fun e he => (H1.keys e he).ok) (by omega) RX.out)
  clear H H1 h32
  go_enter Try.func10, Try.ntmps10
  go_upto_region 1 with fail
  rw [← hW]
  clear hW
  go_upto_region 4 with (first
    | (go_at_call 26; refine MD.out.mono ?_; rintro e w2 ⟨rfl, hw⟩; obtain rfl := hw.symm)
    | (go_at_call 27; refine IN.out.mono ?_; rintro e w2 ⟨r, rfl, hr, hb⟩; have HR := Lib.hid hr; have HB2 := Lib.hid hb; clear hr hb))
  have HT2 := Lib.hid (HT.out.below HB2.out)
  have HBB := Lib.hid (HB.out.trans (HB2.out.mono HB.out.size))
  clear c1 MD IN
  rcases HR.out with ⟨hr, hno⟩ | ⟨i, x, hr, hx, hf, hno⟩
  · have HNO := Lib.hid hno
    subst hr
    clear hno HR
    go_wp2_with fail
    go_ret
    obtain ⟨e1, e2⟩ := hasN_no HT2.out.val HNO.out
    refine ⟨?_, S, ⟨A, n, c, es, by rw [e2]; exact HT2.out⟩, fun k hk => .inl hk, Fs.below HBB.out⟩
    unfold dropErr
    rw [e1]
    rfl
  · have hxn : i < n := by rw [← HL.out.1]; exact (List.getElem?_eq_some_iff.1 hx).1
    obtain ⟨g, hA, hnc, hcm, hgt, hSg⟩ := HT2.out.blk (by omega)
    obtain ⟨j, hj⟩ : ∃ j : Nat, j = i + 1 := ⟨_, rfl⟩
    subst hA
    have HX := Lib.hid (And.intro hx (And.intro hf hno))
    have HG := Lib.hid (And.intro hgt (And.intro hSg (And.intro hxn (And.intro hj (And.intro hnc hcm)))))
    have q1 : ¬ r < 0 := by omega
    have q2 : IntKind.i64.wrap (r + 1) = (j : Int) := by rw [hr, hj]; exact IntWalk.i64_in _ (by have := HL.out; omega)
    have DE := Lib.hid (del_any g n c i j es w2 HT2.out.own HT2.out.L26 HL.out.1 hj (by omega) (by have := HL.out; omega))
    have c1 := HT2.out.c1
    have hri := hr
    clear hx hf hno hxn hnc hcm hgt hSg hj hr
    subst hri
    clear HR
    go_wp2_with (first
      | (go_at_call 29; refine DE.out.mono ?_; rintro e w3 ⟨rfl, ho, hb⟩
         have HO := Lib.hid ho
         have HB3 := Lib.hid hb
         have R3 := Lib.hid (show w3.heap[t]? = _ from (hb.block t (lt_of_row HT2.out.row) (fun e => HG.out.1 e.symm)).trans HT2.out.row)
         have c3 : w3.cell? ⟨t, 1, none⟩ = some (.slice (some ⟨g, 0, none⟩) n c) := cell_of_row w3 t 1 _ _ (0, 0) R3.out
         have f3 : w3.frozen? ⟨t, 1, none⟩ = false := frozen_of_row w3 t 1 _ _ R3.out
         clear ho hb))
    go_ret
    obtain ⟨hx, hf, hno⟩ := HX.out
    obtain ⟨hgt, hSg, hxn, hj, hnc, hcm⟩ := HG.out
    have hxm : x.k.n = m := of_decide_eq_true hf
    have hb3 : ∀ k, k ≠ g → k ≠ t → k < w2.heap.size → (w3.setCell ⟨t, 1, none⟩ (.slice (some ⟨g, 0, none⟩) (n - 1) c)).heap[k]? = w2.heap[k]? := fun k h1 h2 h3 => by
      rw [heap_setCell_other _ _ _ _ (show k ≠ t from h2)]; exact HB3.out.block k h3 h1
    have hsz : (w3.setCell ⟨t, 1, none⟩ (.slice (some ⟨g, 0, none⟩) (n - 1) c)).heap.size = w3.heap.size := by simp [World.setCell]
    have hsub : ∀ e ∈ es.take i ++ es.drop j, e ∈ es := fun e he => by
      rcases List.mem_append.1 he with h | h
      · exact List.mem_of_mem_take h
      · exact List.mem_of_mem_drop h
    refine ⟨?_, S, ⟨some ⟨g, 0, none⟩, n - 1, c, es.take i ++ es.drop j, ⟨?_, ?_, ?_, fun e he => ?_, fun e he b o hbo => ?_, HT2.out.st, HT2.out.sA, fun k hk => ?_⟩⟩, fun k hk => .inl hk, ?_⟩
    · unfold dropErr
      rw [hasN_yes HT2.out.val hx hxm]
      rfl
    · exact heap_setCell_same w3 t 1 _ _ _ R3.out
    · exact own_stand HO.out fun g' hg' => by
        injection hg' with hg'
        exact heap_setCell_other _ _ _ _ (show g' ≠ t from fun e => hgt ((show g = g' from hg').trans e))
    · unfold dropR
      rw [← HT2.out.val, dropE_hit hno hx hxm, hj]
    · refine (HT2.out.keys e (hsub e he)).stand (by rw [hsz]; exact HB3.out.size) fun b o hbo => ?_
      obtain ⟨h1, h2, h3⟩ := HT2.out.apart e (hsub e he) b o hbo
      exact hb3 b (fun e => h3 (by rw [e]; rfl)) h2 (HT2.out.lt b h1)
    · obtain ⟨h1, h2, h3⟩ := HT2.out.apart e (hsub e he) b o hbo
      exact ⟨h1, h2, h3⟩
    · rw [hsz]
      exact Nat.lt_of_lt_of_le (HT2.out.lt k hk) HB3.out.size
    · have hf2 : Fs S w2 (w3.setCell ⟨t, 1, none⟩ (.slice (some ⟨g, 0, none⟩) (n - 1) c)) := ⟨HB3.out.os, HB3.out.tape, HB3.out.output, by rw [hsz]; exact HB3.out.size, fun k hk hn => hb3 k (fun e => hn (e ▸ hSg)) (fun e => hn (e ▸ HT2.out.st)) hk⟩
      exact (Fs.below HBB.out).trans hf2
end Go.Proofs.Ytflfkhcbkhdahaa.mkC

/-
  A key tuple is added to a ring.
-/
namespace Go.Proofs.Ytflfkhcbkhdahaa.mkC
open Go.ChangeShapes Go.WideShapes Go.ChangeAt Go.RowKit
open Go.Proofs.Ytflfkhcbkhdahaa.memC Go.Proofs.Ytflfkhcbkhdahaa.genC Go.Proofs.Ytflfkhcbkhdahaa.butC Go.Proofs.Ytflfkhcbkhdahaa.freeC Go.Proofs.Ytflfkhcbkhdahaa.adC Go.Proofs.Ytflfkhcbkhdahaa.rtC
set_option linter.unusedVariables false
section
variable {P : Program} {R : Value → World → Prop} {fr : Act} {o : Oper} {w : World} {Q : Exit → Act → World → Prop}
/-- a slice of one aggregate -/
theorem lit1_J (s : Tmp) (LT ET k : Nat) (ho : o.op = .buildSlice LT 1 #[(0, .tmp s)]) (C : Array Value) (hx : fr.tmps[s]?.getD undef = .agg C) (hu : P.underlying LT = some (.slice ET)) (i : TypeInfo) (z : Value) (hi : P.info? ET = some i) (hz : i.zero = some z) (hs : i.size = k) (hC : C.size = k) (hpos : 0 < k) (hsm : k ≤ 1000)
    (h : R (.slice (some ⟨w.heap.size, 0, none⟩) 1 1) (w.alloc (.cells C ET))) : o.wp P fr w (fun a' w' => ∃ v, a' = fr.put o.dst v ∧ R v w') Q := by
  refine wp_buildSlice LT ET 1 _ ho C i z hu hi hz (by rw [hs]; omega) (by rw [hs]; omega) ?_ ⟨_, rfl, h⟩
  rw [hs]
  have := Great.fill_whole (s := k) hpos [Value.agg C] ((Array.range (1 * k)).map (z.cells[· % z.cells.size]!)) (by simpa [Value.cells] using hC) (by simp)
  have hx' : fr.eval (.tmp s) = .agg C := by simpa only [Act.eval, Array.getD_eq_getD_getElem?] using hx
  simpa [hx', Value.cells] using this
/-- one aggregate is appended to an own row -/
theorem app1_J (s x : Operand) (LT ET k bytes : Nat) (ho : o.op = .call { callee := .builtin .append, args := #[s, x], argTypes := #[LT, LT] }) (hu : P.underlying LT = some (.slice ET)) (i : TypeInfo) (z : Value) (hi : P.info? ET = some i) (hz : i.zero = some z) (hs : i.size = k) (hby : i.bytes = bytes) (hzs : z.cells.size = k) (hpos : 0 < k) (hb8 : bytes ≤ 1000)
    (v : Value) (n : Nat) (l : List Value) (hv : fr.eval s = v) (hown : w.ownsRow 0 ET k v n l) (hn : n ≤ 1000) (g : Nat) (X : Array Value) (hx : fr.eval x = .slice (some ⟨g, 0, none⟩) 1 1) (hg : w.heap[g]? = some (.cells X ET (0, 0))) (hX : X.size = k) (h1 : ∀ u ∈ X.toList, u.oneCell' = true)
    (h : ∀ g' c' w', (v.ownBlock = some g' ∨ g' = w.heap.size) → w'.ownsRow 0 ET k (.slice (some ⟨g', 0, none⟩) (n + 1) c') (n + 1) (l ++ X.toList) → w.grownBy w' v.ownBlock → R (.slice (some ⟨g', 0, none⟩) (n + 1) c') w') : o.wp P fr w (fun a' w' => ∃ v, a' = fr.put o.dst v ∧ R v w') Q := by
  obtain ⟨v', w', hrun, h2, h3, -, h5⟩ := run_append_own_at (P := P) w 0 LT o.type ET i z k bytes hu hi hz hs hby hzs hpos v n l hown ⟨g, 0, none⟩ 1 1 X.toList (by rw [show X.toList.length = X.size from rfl, hX, Nat.one_mul])
    (fun j u hu => by rw [memC.add_plain, Nat.zero_add, cell_of_row w g j _ _ (0, 0) hg]; simpa using hu) h1 (by unfold maxLen; omega) (by have : (n + 1) * bytes ≤ 1001 * 1000 := Nat.mul_le_mul (by omega) hb8; omega) (Nat.zero_le _)
  rcases h2.2 with ⟨-, h0⟩ | ⟨g', c', cur, e, -⟩
  · omega
  · subst e
    have h6 : v.ownBlock = some g' ∨ g' = w.heap.size := by
      rcases h5 with h5 | h5
      · exact .inl h5.symm
      · exact .inr (Option.some.inj h5)
    unfold Oper.wp execOp
    simp only [ho, resolve, invoke, builtin, Sem.run_bind, Sem.run_pure, Result.andThen_ok, List.map_toArray, List.map_cons, List.map_nil, hv, hx, hrun]
    exact ⟨_, rfl, h g' c' w' h6 h2 h3⟩
end
/-- the blocks that turn: the variable's, and its slice's -/
def S1 (t : Nat) (ov : Value) (k : Nat) : Prop := k = t ∨ ov.ownBlock = some k
theorem fs_grown {t : Nat} {ov : Value} {w w' : World} (h : w.grownBy w' ov.ownBlock) : Fs (S1 t ov) w w' := ⟨h.os, h.tape, h.output, h.size, fun k hk hn => h.block k hk fun e => hn (.inr e.symm)⟩
theorem owns_below {w w' : World} {base T c k : Nat} {v : Value} {l : List Value} (h : w.ownsRow base T c v k l) (hb : Below w.heap.size w w') : w'.ownsRow base T c v k l := by
  refine ⟨h.1, ?_⟩
  rcases h.2 with h0 | ⟨g, cap, cur, e1, hg, hh, h'⟩
  · exact .inl h0
  · exact .inr ⟨g, cap, cur, e1, hg, (hb.block g (Array.getElem?_eq_some_iff.1 hh).1).trans hh, h'⟩
theorem owns_stand {w w' : World} {base T c k : Nat} {v : Value} {l : List Value} (h : w.ownsRow base T c v k l) (hk : ∀ g, v.ownBlock = some g → w'.heap[g]? = w.heap[g]?) : w'.ownsRow base T c v k l := by
  refine ⟨h.1, ?_⟩
  rcases h.2 with h0 | ⟨g, cap, cur, rfl, hg, hh, h'⟩
  · exact .inl h0
  · exact .inr ⟨g, cap, cur, rfl, hg, (hk g rfl).trans hh, h'⟩
/-- the new one, with a master key of its own -/
structure Nq (w0 w : World) (q : Ke) (B : Option Addr) (d : Nat) : Prop where
  key : KeAt w w.heap.size ⟨q.k, B, q.n, d, q.m⟩
  blk : ∀ b o, B = some ⟨b, o, none⟩ → w0.heap.size ≤ b ∧ b < w.heap.size
theorem Nq.stand {w0 w w' : World} {q : Ke} {B : Option Addr} {d : Nat} (h : Nq w0 w q B d) (hs : w.heap.size ≤ w'.heap.size) (hb : ∀ b o, B = some ⟨b, o, none⟩ → w'.heap[b]? = w.heap[b]?) : Nq w0 w' q B d :=
  ⟨h.key.stand hs hb, fun b o e => ⟨(h.blk b o e).1, Nat.lt_of_lt_of_le (h.blk b o e).2 hs⟩⟩
theorem Nq.below {w0 w w' : World} {q : Ke} {B : Option Addr} {d : Nat} (h : Nq w0 w q B d) (hb : Below w.heap.size w w') : Nq w0 w' q B d := h.stand hb.size fun b o e => hb.block b (h.blk b o e).2
/-- how far it is: before; the new one is made, laid, appended, put -/
def adR (w0 : World) (t bx n : Nat) (H : Array Value) (ov : Value) (l : List Value) (q : Ke) : Nat → (Nat → Value) → World → Prop
  | 0, _, w => w.heap[t]? = some (.cells H 69 (0, 0)) ∧ (w.heap[bx]? = some (.cells q.V 49 (0, 0)) ∧ KeAt w w.heap.size q) ∧ w.ownsRow 0 49 26 ov n l ∧ Fs (S1 t ov) w0 w
  | 1, us, w => w.heap[t]? = some (.cells H 69 (0, 0)) ∧ (∃ B d, us 6 = .agg (ktV q.k B q.n d) ∧ Nq w0 w q B d) ∧ w.ownsRow 0 49 26 ov n l ∧ Fs (S1 t ov) w0 w
  | 2, us, w => w.heap[t]? = some (.cells H 69 (0, 0)) ∧ (∃ B d z, us 7 = .slice (some ⟨z, 0, none⟩) 1 1 ∧ w.heap[z]? = some (.cells (ktV q.k B q.n d) 49 (0, 0)) ∧ Nq w0 w q B d) ∧ w.ownsRow 0 49 26 ov n l ∧ Fs (S1 t ov) w0 w
  | 3, us, w => w.heap[t]? = some (.cells H 69 (0, 0)) ∧ (∃ B d g' c', us 8 = .slice (some ⟨g', 0, none⟩) (n + 1) c' ∧ Nq w0 w q B d ∧ (∀ b o, B = some ⟨b, o, none⟩ → b ≠ g') ∧ (ov.ownBlock = some g' ∨ w0.heap.size ≤ g') ∧ w.ownsRow 0 49 26 (.slice (some ⟨g', 0, none⟩) (n + 1) c') (n + 1) (l ++ ktL q.k B q.n d)) ∧ True ∧ Fs (S1 t ov) w0 w
  | 4, _, w => True ∧ (∃ B d g' c', w.heap[t]? = some (.cells (H.setIfInBounds 1 (.slice (some ⟨g', 0, none⟩) (n + 1) c')) 69 (0, 0)) ∧ Nq w0 w q B d ∧ (∀ b o, B = some ⟨b, o, none⟩ → b ≠ g') ∧ (ov.ownBlock = some g' ∨ w0.heap.size ≤ g') ∧ w.ownsRow 0 49 26 (.slice (some ⟨g', 0, none⟩) (n + 1) c') (n + 1) (l ++ ktL q.k B q.n d)) ∧ True ∧ Fs (S1 t ov) w0 w
  | _, _, _ => True
theorem adR.keep (w0 : World) (t bx n : Nat) (H : Array Value) (ov : Value) (l : List Value) (q : Ke) (k : Nat) (us us' : Nat → Value) (w w' : World) (h : ∀ x ∈ [6, 7, 8, 11], us' x = us x) (hb : Below w.heap.size w w') (hR : adR w0 t bx n H ov l q k us w) : adR w0 t bx n H ov l q k us' w' := by
  have hk : ∀ {g : Nat} {ob : Obj}, w.heap[g]? = some ob → w'.heap[g]? = some ob := fun h9 => (hb.block _ (Array.getElem?_eq_some_iff.1 h9).1).trans h9
  have h6 := h 6 (by simp)
  have h7 := h 7 (by simp)
  have h8 := h 8 (by simp)
  unfold adR at hR ⊢
  split at hR
  · exact ⟨hk hR.1, ⟨hk hR.2.1.1, hR.2.1.2.below hb hb.size⟩, owns_below hR.2.2.1 hb, hR.2.2.2.trans (Fs.below hb)⟩
  · obtain ⟨a1, ⟨B, d, a2, a3⟩, a4, a5⟩ := hR
    exact ⟨hk a1, ⟨B, d, h6.trans a2, a3.below hb⟩, owns_below a4 hb, a5.trans (Fs.below hb)⟩
  · obtain ⟨a1, ⟨B, d, z, a2, a2', a3⟩, a4, a5⟩ := hR
    exact ⟨hk a1, ⟨B, d, z, h7.trans a2, hk a2', a3.below hb⟩, owns_below a4 hb, a5.trans (Fs.below hb)⟩
  · obtain ⟨a1, ⟨B, d, g', c', a2, a3, a4, a6, a7⟩, -, a5⟩ := hR
    exact ⟨hk a1, ⟨B, d, g', c', h8.trans a2, a3.below hb, a4, a6, owns_below a7 hb⟩, trivial, a5.trans (Fs.below hb)⟩
  · obtain ⟨-, ⟨B, d, g', c', a2, a3, a4, a6, a7⟩, -, a5⟩ := hR
    exact ⟨trivial, ⟨B, d, g', c', hk a2, a3.below hb, a4, a6, owns_below a7 hb⟩, trivial, a5.trans (Fs.below hb)⟩
  · trivial
def aqV (t bx : Nat) (ov : Value) (q : Ke) : Nat → Value → World → Prop
  | 0, v, _ => v = .pointer (some ⟨t, 0, none⟩)
  | 1, v, _ => v = .pointer (some ⟨t, 0, none⟩)
  | 2, v, _ => v = .pointer (some ⟨t, 0, none⟩)
  | 3, v, _ => v = .pointer (some ⟨t, 1, none⟩)
  | 4, v, _ => v = ov
  | 5, v, _ => v = .agg q.V
  | 9, v, _ => v = .pointer (some ⟨t, 0, none⟩)
  | 10, v, _ => v = .pointer (some ⟨t, 1, none⟩)
  | _, _, _ => True
theorem aqV.keep (t bx : Nat) (ov : Value) (q : Ke) (i : Nat) (v : Value) (w w' : World) (hd : Below w.heap.size w w' ∨ (fun _ _ => True) w w') (h : aqV t bx ov q i v w) : aqV t bx ov q i v w' := by
  unfold aqV at h ⊢
  split at h <;> exact h
def aqT : List (Option Nat) := [none, none, none, none, none, none, none, none, none, none, none, none, none, none, none, none, none, none, none, none, none, none, none, none, none, none, none, none, none, none, none, none, none, none, none, none, none, none, none, none, none, none, none, none, none, none, none, some 0, some 1, some 2, some 3, some 4, some 5, some 6, some 7, some 8, some 9, some 10, none, none]
/-! ### the ends -/
theorem refused {w w' : World} {S : Nat → Prop} {t : Nat} {A : Option Addr} {n c : Nat} {es : List Ke} {rg : Rg} (H : TCk w S t A n c es rg) (hb : Below w.heap.size w w') {k : Kp} {er : Int} (he : addErr rg k = er) (h0 : er ≠ 0) :
    TurnR Tb w S t (.tuple #[.int .i64 (addN rg k), .int .i64 (addErr rg k)]) (addR rg k) (.returned (.tuple #[.int .i64 0, .int .i64 er])) w' := by
  have e1 : addN rg k = 0 := by unfold addN; rw [he, if_neg h0]
  have e2 : addR rg k = rg := by unfold addR; rw [he, if_neg h0]
  unfold TurnR
  rw [e1, e2, he]
  exact ⟨rfl, S, ⟨A, n, c, es, H.below hb⟩, fun k hk => .inl hk, Fs.below hb⟩
theorem addErr_may {rg : Rg} {q : Ke} (hl : q.m.length = q.n) (h : mayB q.k q.n = false) : addErr rg q.val = 1 := by
  unfold addErr Ke.val
  rw [hl, h]
  rfl
theorem addErr_there {rg : Rg} {q : Ke} {es : List Ke} (hv : es.map Ke.val = rg.l) (hl : q.m.length = q.n) (h : mayB q.k q.n = true) (hc : (es.any fun x => clash x.val q.val) = true) : addErr rg q.val = 7 := by
  unfold addErr
  rw [show mayB q.val.1 q.val.2.length = true by unfold Ke.val; rw [hl]; exact h, ← hv, List.any_map, if_pos rfl, if_pos (show (es.any ((fun x => clash x q.val) ∘ Ke.val)) = true from hc)]
theorem addErr_many {rg : Rg} {q : Ke} {es : List Ke} (hv : es.map Ke.val = rg.l) (hl : q.m.length = q.n) (h : mayB q.k q.n = true) (hc : (es.any fun x => clash x.val q.val) = false) (hm : es.length = 32 ∨ rg.last = 2147483647) : addErr rg q.val = 5 := by
  unfold addErr
  rw [show mayB q.val.1 q.val.2.length = true by unfold Ke.val; rw [hl]; exact h, ← hv, List.any_map, if_pos rfl, if_neg (show ¬ (es.any ((fun x => clash x q.val) ∘ Ke.val)) = true by rw [show (es.any ((fun x => clash x q.val) ∘ Ke.val)) = false from hc]; decide), List.length_map, if_pos (by omega)]
theorem addErr_ok {rg : Rg} {q : Ke} {es : List Ke} (hv : es.map Ke.val = rg.l) (hl : q.m.length = q.n) (h : mayB q.k q.n = true) (hc : (es.any fun x => clash x.val q.val) = false) (hi : Inv rg) (hm : ¬ es.length = 32) (hm2 : ¬ rg.last = 2147483647) : addErr rg q.val = 0 := by
  have h1 := hi.le
  have h2 := hi.l1
  unfold addErr
  rw [← hv, List.length_map] at h1
  rw [show mayB q.val.1 q.val.2.length = true by unfold Ke.val; rw [hl]; exact h, ← hv, List.any_map, if_pos rfl, if_neg (show ¬ (es.any ((fun x => clash x q.val) ∘ Ke.val)) = true by rw [show (es.any ((fun x => clash x q.val) ∘ Ke.val)) = false from hc]; decide), List.length_map, if_neg (by omega)]
def numK (k : Kt) (n : Int) : Kt := { k with n := n }
theorem kt_setN (k : Kt) (A : Option Addr) (m c : Nat) (x : Int) : (ktV k A m c).setIfInBounds 0 (.int .i64 x) = ktV (numK k x) A m c := by
  unfold ktV ktL numK
  simp [ktT]
theorem added {w w0 w5 : World} {S : Nat → Prop} {t : Nat} {A : Option Addr} {n c : Nat} {es : List Ke} {rg : Rg} {q : Ke} {B : Option Addr} {d g' c' : Nat} (H : TCk w S t A n c es rg) (he : addErr rg q.val = 0) (hb : But t w w0)
    (b1 : w5.heap[t]? = some (.cells #[.pointer (some ⟨t, 0, none⟩), .slice (some ⟨g', 0, none⟩) (n + 1) c', .int .i64 (rg.last + 1)] 69 (0, 0))) (b2 : Nq w0 w5 ⟨numK q.k (rg.last + 1), q.A, q.n, q.c, q.m⟩ B d) (b3 : ∀ b o, B = some ⟨b, o, none⟩ → b ≠ g') (b4 : (Value.slice A n c).ownBlock = some g' ∨ w0.heap.size ≤ g')
    (b5 : w5.ownsRow 0 49 26 (.slice (some ⟨g', 0, none⟩) (n + 1) c') (n + 1) (flatK es ++ ktL (numK q.k (rg.last + 1)) B q.n d)) (b6 : Fs (S1 t (.slice A n c)) w0 w5) :
    TurnR Tb w S t (.tuple #[.int .i64 (addN rg q.val), .int .i64 (addErr rg q.val)]) (addR rg q.val) (.returned (.tuple #[.int .i64 (rg.last + 1), .int .i64 0])) w5 := by
  have e1 : addN rg q.val = rg.last + 1 := by unfold addN; rw [he, if_pos rfl]
  have e2 : addR rg q.val = ⟨rg.last + 1, rg.l ++ [(numK q.k (rg.last + 1), q.m)]⟩ := by unfold addR; rw [he, if_pos rfl]; rfl
  have hg : g' < w5.heap.size := (b5.lt g' rfl).2
  have htl := H.lt t H.st
  have hst : ∀ k, k < w.heap.size → k ≠ t → (Value.slice A n c).ownBlock ≠ some k → w5.heap[k]? = w.heap[k]? := fun k h1 h2 h3 => by
    rw [b6.block k (Nat.lt_of_lt_of_le h1 hb.size) (fun h9 => h9.elim h2 h3)]
    exact hb.block k h1 h2
  unfold TurnR
  rw [e1, e2, he]
  refine ⟨rfl, fun k => S k ∨ (w.heap.size ≤ k ∧ k < w5.heap.size), ⟨some ⟨g', 0, none⟩, n + 1, c', es ++ [⟨numK q.k (rg.last + 1), B, q.n, d, q.m⟩], ⟨b1, ?_, ?_, fun e he => ?_, fun e he b o hbo => ?_, .inl H.st, fun g hg' => ?_, fun k hk => ?_⟩⟩, fun k hk => hk.imp id (fun h => h.1), ?_⟩
  · unfold OwnP
    rw [List.length_append, H.len, flatK_append]
    have e3 : flatK [(⟨numK q.k (rg.last + 1), B, q.n, d, q.m⟩ : Ke)] = ktL (numK q.k (rg.last + 1)) B q.n d := by unfold flatK; simp [Ke.L]
    rw [e3]
    exact b5
  · rw [List.map_append, H.val]; rfl
  · rcases List.mem_append.1 he with h | h
    · refine (H.keys e h).stand (Nat.le_trans hb.size b6.size) fun b o hbo => ?_
      obtain ⟨h1, h2, h3⟩ := H.apart e h b o hbo
      exact hst b (H.lt b h1) h2 h3
    · rw [List.mem_singleton.1 h]; exact b2.key
  · rcases List.mem_append.1 he with h | h
    · obtain ⟨h1, h2, h3⟩ := H.apart e h b o hbo
      refine ⟨.inl h1, h2, fun e9 => ?_⟩
      have e9 : g' = b := Option.some.inj e9
      rcases b4 with h4 | h4
      · exact h3 (e9 ▸ h4)
      · have := H.lt b h1; have := hb.size; omega
    · rw [List.mem_singleton.1 h] at hbo
      have h1 := b2.blk b o hbo
      refine ⟨.inr ⟨Nat.le_trans hb.size h1.1, h1.2⟩, ?_, fun e9 => ?_⟩
      · have := hb.size; omega
      · exact b3 b o hbo (Option.some.inj e9).symm
  · have e9 : g' = g := Option.some.inj hg'
    subst e9
    rcases b4 with h4 | h4
    · exact ⟨.inl (H.sA g' h4).1, (H.sA g' h4).2⟩
    · exact ⟨.inr ⟨Nat.le_trans hb.size h4, hg⟩, by have := hb.size; omega⟩
  · rcases hk with h | h
    · exact Nat.lt_of_lt_of_le (H.lt k h) (Nat.le_trans hb.size b6.size)
    · exact h.2
  · exact ⟨b6.os.trans hb.os, b6.tape.trans hb.tape, b6.output.trans hb.output, Nat.le_trans hb.size b6.size, fun k hk hn => hst k hk (fun e => hn (e ▸ H.st)) (fun e => hn (H.sA k e).1)⟩
set_option maxRecDepth 100000 in
set_option maxHeartbeats 8000000 in
theorem add_any (w : World) (S : Nat → Prop) (t : Nat) (rg : Rg) (qa : Ke) (h : Tb w S t rg) (hinv : Inv rg) (hq : KeAt w w.heap.size qa) (hqn : qa.n ≤ 200) : Calls Try.prog 12 #[.pointer (some ⟨t, 0, none⟩), .agg qa.V] w (TurnR Tb w S t (.tuple #[.int .i64 (addN rg qa.val), .int .i64 (addErr rg qa.val)]) (addR rg qa.val)) := by
  obtain ⟨A, n, c, es, H⟩ := h
  have h32 := H.le32 hinv
  have HH0 := Lib.hid H
  obtain ⟨W, hW⟩ : ∃ W, W = w.alloc (.cells qa.V 49) := ⟨_, rfl⟩
  obtain ⟨bx, hbx⟩ : ∃ b, b = w.heap.size := ⟨_, rfl⟩
  have HB := Lib.hid (show Below w.heap.size w W by rw [hW]; exact alloc_below _ _)
  have RX := Lib.hid (show W.heap[bx]? = some (.cells qa.V 49 (0, 0)) by rw [hW, hbx]; exact heap_alloc_new _ _)
  have HT := Lib.hid (H.below HB.out)
  have HBX := Lib.hid hbx
  have HL := Lib.hid (And.intro H.len h32)
  have HQ0 := Lib.hid hq
  have HQN := Lib.hid hqn
  have HI := Lib.hid hinv
  have LQ := Lib.hid hq.len
  have MD := Lib.hid (made_any HT.out)
  have MY := Lib.hid (fun w' => cmay_any qa.k qa.A qa.n qa.c w' hq.ok)
  have IX := Lib.hid (show (Try.prog.info? 49).map (·.size) = some qa.V.size from pkV_info hq.ok)
  obtain ⟨v1, hv1⟩ : ∃ v, v = mayB qa.k qa.n := ⟨_, rfl⟩
  have V1 := Lib.hid hv1
  have MY' := Lib.hid (fun w' => (show Calls Try.prog 30 #[.agg qa.V] w' (Ret w' (.bool v1)) by rw [hv1]; exact MY.out w'))
  clear MY hv1 H h32 hq hqn hinv
  go_enter Try.func12, Try.ntmps12
  go_upto_region 1 with fail
  rw [← hW]
  try rw [← hbx]
  clear hW hbx
  cases v1
  · have he := Lib.hid (addErr_may (rg := rg) LQ.out V1.out.symm)
    clear V1
    go_wp2_with (first
      | (go_at_call 26; refine MD.out.mono ?_; rintro e w2 ⟨rfl, hw⟩; obtain rfl := hw.symm)
      | (with_reducible refine atC.at_load 49 3 ?_; refine wpList_load_rowG (by kernel_rfl) 49 (.tmp 3) rfl bx (by kernel_rfl) _ _ _ _ RX.out Try.underlying49 rfl IX.out ?_)
      | (go_at_call 30; (with_reducible refine (MY'.out _).mono ?_); rintro e w2 ⟨rfl, BB⟩; have HB2 := Lib.hid BB; clear BB))
    go_ret2
    exact refused HH0.out (HB.out.trans (HB2.out.mono HB.out.size)) he.out (by decide)
  go_upto_region 5 with (first
    | (go_at_call 26; refine MD.out.mono ?_; rintro e w2 ⟨rfl, hw⟩; obtain rfl := hw.symm)
    | (with_reducible refine atC.at_load 49 3 ?_; refine wpList_load_rowG (by kernel_rfl) 49 (.tmp 3) rfl bx (by kernel_rfl) _ _ _ _ RX.out Try.underlying49 rfl IX.out ?_)
    | (go_at_call 30; (with_reducible refine (MY'.out _).mono ?_); rintro e w2 ⟨rfl, BB⟩; have HB2 := Lib.hid BB; clear BB))
  have HT2 := Lib.hid (HT.out.below HB2.out)
  have RX2 := Lib.hid (show w2.heap[bx]? = some (.cells qa.V 49 (0, 0)) from (HB2.out.block _ (lt_of_row RX.out)).trans RX.out)
  have c1 := HT2.out.c1
  obtain ⟨v2, hv2⟩ : ∃ v, v = es.any fun x => clash x.val qa.val := ⟨_, rfl⟩
  have V2 := Lib.hid hv2
  have CO := Lib.hid (show Calls Try.prog 31 #[.slice A n c, .func (.func 32) #[] #[.pointer (some ⟨bx, 0, none⟩)]] w2 (Ret w2 (.bool v2)) by rw [hv2]; exact contains_add1 qa bx A 0 n c es w2 HT2.out.rowK (fun e he => (HT2.out.keys e he).ok) (by have := HL.out; omega) HQ0.out.ok (fun e he => (HT2.out.keys e he).len) LQ.out RX2.out)
  clear hv2 MD MY' RX
  cases v2
  rotate_left
  · have he := Lib.hid (addErr_there (rg := rg) HT2.out.val LQ.out V1.out.symm V2.out.symm)
    clear V1 V2
    go_wp2_with (go_at_call 31; (with_reducible refine CO.out.mono ?_); rintro e w3 ⟨rfl, BB⟩; have HB3 := Lib.hid BB; clear BB)
    go_ret2
    exact refused HH0.out (HB.out.trans ((HB2.out.trans (HB3.out.mono HB2.out.size)).mono HB.out.size)) he.out (by decide)
  go_upto_region 7 with (go_at_call 31; (with_reducible refine CO.out.mono ?_); rintro e w3 ⟨rfl, BB⟩; have HB3 := Lib.hid BB; clear BB)
  have HT3 := Lib.hid (HT2.out.below HB3.out)
  have RX3 := Lib.hid (show w3.heap[bx]? = some (.cells qa.V 49 (0, 0)) from (HB3.out.block _ (lt_of_row RX2.out)).trans RX2.out)
  have HBB := Lib.hid (HB.out.trans ((HB2.out.trans (HB3.out.mono HB2.out.size)).mono HB.out.size))
  clear c1 CO RX2 HB2 HB3 HB HT HT2
  have c1 := HT3.out.c1
  have c2 := HT3.out.c2
  by_cases h1 : n = 32
  · have p1 : ((n : Int) == 32) = true := beq_iff_eq.2 (by omega)
    have he := Lib.hid (addErr_many (rg := rg) HT3.out.val LQ.out V1.out.symm V2.out.symm (.inl (HL.out.1.trans h1)))
    clear V1 V2 h1
    go_wp2_with go_skip
    go_ret2
    exact refused HH0.out HBB.out he.out (by decide)
  have p1 : ((n : Int) == 32) = false := beq_eq_false_iff_ne.2 (by omega)
  by_cases h2 : rg.last = 2147483647
  · have p2 : (rg.last == 2147483647) = true := beq_iff_eq.2 h2
    have he := Lib.hid (addErr_many (rg := rg) HT3.out.val LQ.out V1.out.symm V2.out.symm (.inr h2))
    clear V1 V2 h1 h2
    go_wp2_with go_skip
    go_ret2
    exact refused HH0.out HBB.out he.out (by decide)
  have p2 : (rg.last == 2147483647) = false := beq_eq_false_iff_ne.2 h2
  have HE := Lib.hid (addErr_ok (rg := rg) (q := qa) HT3.out.val LQ.out V1.out.symm V2.out.symm HI.out (by rw [HL.out.1]; exact h1) h2)
  have f2 : w3.frozen? ⟨t, 2, none⟩ = false := frozen_of_row w3 t 2 _ _ HT3.out.row
  have k1 : IntKind.i64.wrap (rg.last + 1) = rg.last + 1 := IntWalk.i64_in _ (by have := HI.out.l0; have := HI.out.l1; omega)
  clear V1 V2 h1 h2
  go_upto_region 10 with go_skip
  obtain ⟨w4, hw4⟩ : ∃ w4, w4 = w3.setCell ⟨t, 2, none⟩ (.int .i64 (rg.last + 1)) := ⟨_, rfl⟩
  rw [← hw4]
  have htb : t ≠ bx := fun e => by have := HH0.out.lt t HH0.out.st; have := HBX.out; omega
  have R4 := Lib.hid (show w4.heap[t]? = some (.cells #[.pointer (some ⟨t, 0, none⟩), .slice A n c, .int .i64 (rg.last + 1)] 69 (0, 0)) by rw [hw4]; exact heap_setCell_same w3 t 2 _ _ _ HT3.out.row)
  have X4 := Lib.hid (show w4.heap[bx]? = some (.cells qa.V 49 (0, 0)) by rw [hw4, heap_setCell_other _ _ _ _ (show bx ≠ t from htb.symm)]; exact RX3.out)
  have B4 := Lib.hid (show But t w w4 by rw [hw4]; exact (But.below HBB.out).setCell 2 _)
  have S4 := Lib.hid (show w4.heap.size = w3.heap.size by rw [hw4]; simp [World.setCell])
  have O4 := Lib.hid (show OwnP w4 0 (.slice A n c) es by rw [hw4]; exact own_stand HT3.out.own fun g hg => heap_setCell_other _ _ _ _ (show g ≠ t from (HT3.out.sA g hg).2))
  have K4 := Lib.hid (show ∀ g, g ≠ t → w4.heap[g]? = w3.heap[g]? from fun g hg => by rw [hw4]; exact heap_setCell_other _ _ _ _ hg)
  have HTB := Lib.hid htb
  clear hw4 c1 c2 f2 k1 p1 p2 htb
  have c2 : w4.cell? ⟨t, 2, none⟩ = some (.int .i64 (rg.last + 1)) := cell_of_row w4 t 2 _ _ (0, 0) R4.out
  have c0 := kt_cell X4.out kt_n
  have f0 : w4.frozen? ⟨bx, 0, none⟩ = false := frozen_of_row w4 bx 0 _ _ X4.out
  go_upto_region 11 with go_skip
  obtain ⟨w0, hw0⟩ : ∃ w0, w0 = w4.setCell ⟨bx, 0, none⟩ (.int .i64 (rg.last + 1)) := ⟨_, rfl⟩
  rw [← hw0]
  obtain ⟨q, hq1⟩ : ∃ q : Ke, q = ⟨numK qa.k (rg.last + 1), qa.A, qa.n, qa.c, qa.m⟩ := ⟨_, rfl⟩
  have HQ1 := Lib.hid hq1
  have R5 := Lib.hid (show w0.heap[t]? = some (.cells #[.pointer (some ⟨t, 0, none⟩), .slice A n c, .int .i64 (rg.last + 1)] 69 (0, 0)) by rw [hw0, heap_setCell_other _ _ _ _ (show t ≠ bx from HTB.out)]; exact R4.out)
  have RBX := Lib.hid (show w0.heap[bx]? = some (.cells q.V 49 (0, 0)) by
    rw [hw0, heap_setCell_same w4 bx 0 _ _ _ X4.out, hq1]
    unfold Ke.V
    rw [kt_setN])
  have B5 := Lib.hid (show But t w w0 by
    rw [hw0]
    refine ⟨B4.out.os, B4.out.tape, B4.out.output, by simpa [World.setCell] using B4.out.size, fun k hk hn => ?_⟩
    rw [heap_setCell_other _ _ _ _ (show k ≠ bx from by have := HBX.out; omega)]
    exact B4.out.block k hk hn)
  have O5 := Lib.hid (show OwnP w0 0 (.slice A n c) es by rw [hw0]; exact own_stand O4.out fun g hg => heap_setCell_other _ _ _ _ (show g ≠ bx from by have := HH0.out.lt g (HH0.out.sA g hg).1; have := HBX.out; omega))
  have KQ := Lib.hid (show KeAt w0 w0.heap.size q by
    have hs : w.heap.size ≤ w0.heap.size := B5.out.size
    have hn : Nums .u8 w0 w0.heap.size qa.A qa.n qa.m := by
      refine ⟨HQ0.out.nums.len, fun h0 => ?_⟩
      obtain ⟨b, o, e, hlt, hc⟩ := HQ0.out.nums.at_ h0
      refine ⟨b, o, e, by omega, fun i hi => ?_⟩
      have hbt : b ≠ t := fun e9 => by
        have h8 := hc 0 h0
        subst e9
        have h9 := HH0.out.row
        have h7 : w.cell? ⟨b, o + 0, none⟩ = (#[Value.pointer (some ⟨b, 0, none⟩), .slice A n c, .int .i64 rg.last])[o + 0]? := cell_of_row w b (o + 0) _ _ (0, 0) h9
        rw [h8] at h7
        match o, h7 with
        | 0, h7 => simp at h7
        | 1, h7 => simp at h7
        | 2, h7 => simp at h7
        | o + 3, h7 => simp at h7
      exact (World.cell?_of_block (w := w) (w' := w0) (a := ⟨b, o + i, none⟩) (B5.out.block b hlt hbt)).trans (hc i hi)
    rw [hq1]
    exact ⟨kt_numOk HQ0.out.ok (by have := HI.out.l0; have := HI.out.l1; omega), hn, HQ0.out.byte, HQ0.out.cap, HQ0.out.max⟩)
  clear hw0 c2 c0 f0 hq1
  have IX := Lib.hid (show (Try.prog.info? 49).map (·.size) = some q.V.size from pkV_info KQ.out.ok)
  have HK := Lib.hid KQ.out.ok
  have HQ := Lib.hid (show q.n ≤ 1000 by rw [HQ1.out]; have := HQN.out; show qa.n ≤ 1000; omega)
  obtain ⟨i0, hi0, he0⟩ := Option.map_eq_some_iff.1 pk_infoK
  obtain ⟨hz0, he1⟩ := Prod.mk.inj he0
  obtain ⟨hs0, hy0⟩ := Prod.mk.inj he1
  have I0 := Lib.hid hi0
  have I1 := Lib.hid hz0
  have I2 := Lib.hid hs0
  have I3 := Lib.hid hy0
  have ZS := Lib.hid (show (Value.agg (ktV zKt none 0 0)).cells.size = 26 from zV_size)
  have HN := Lib.hid (show n ≤ 1000 by have := HL.out; omega)
  have TN := Lib.hid (show (Value.slice A n c).ownBlock ≠ some t from fun e => (HH0.out.sA t e).2 rfl)
  have TL := Lib.hid (show t < w0.heap.size from Nat.lt_of_lt_of_le (HH0.out.lt t HH0.out.st) B5.out.size)
  have VL := Lib.hid (show ∀ g, (Value.slice A n c).ownBlock = some g → g < w0.heap.size from fun g hg => Nat.lt_of_lt_of_le (HH0.out.lt g (HH0.out.sA g hg).1) B5.out.size)
  have NBX := Lib.hid (show bx ≠ t ∧ (Value.slice A n c).ownBlock ≠ some bx from ⟨fun e => HTB.out e.symm, fun e => by have := HH0.out.lt bx (HH0.out.sA bx e).1; have := HBX.out; omega⟩)
  have LE := Lib.hid (show es.length = n from HL.out.1)
  have N1 := Lib.hid (show q.k.n = rg.last + 1 by rw [HQ1.out]; rfl)
  have H0 := Lib.hid (show adR w0 t bx n #[.pointer (some ⟨t, 0, none⟩), .slice A n c, .int .i64 (rg.last + 1)] (.slice A n c) (flatK es) q 0 (fun _ => undef) w0.drew from ⟨R5.out, ⟨RBX.out, KQ.out.below (Below.refl _ _).drew (Nat.le_refl _)⟩, by have h9 := O5.out; unfold OwnP at h9; rw [LE.out] at h9; exact h9.drew, Fs.below (Below.refl _ _).drew⟩)
  obtain ⟨l, hl0⟩ : ∃ l, l = flatK es := ⟨_, rfl⟩
  have HLL := Lib.hid hl0
  rw [← hl0] at H0
  clear hi0 he0 hz0 he1 hs0 hy0 hl0
  obtain ⟨H, hH⟩ : ∃ H : Array Value, H = #[.pointer (some ⟨t, 0, none⟩), .slice A n c, .int .i64 (rg.last + 1)] := ⟨_, rfl⟩
  have HHE := Lib.hid hH
  have HH := Lib.hid (show H[1]? = some (.slice A n c) by rw [hH]; rfl)
  rw [← hH] at H0 R5
  obtain ⟨ov, hov⟩ : ∃ ov, ov = Value.slice A n c := ⟨_, rfl⟩
  have HOV := Lib.hid hov
  rw [← hov] at H0 HH TN VL NBX
  clear hH hov
  refine with_act fun a0 ha0 => ?_
  have hl : aqT.length = a0.tmps.size := by rw [ha0]; rfl
  have k0 : a0.tmps[0]?.getD undef = .pointer (some ⟨t, 0, none⟩) := by rw [ha0]; rfl
  have k3 : a0.tmps[3]?.getD undef = .pointer (some ⟨bx, 0, none⟩) := by rw [ha0]; rfl
  refine wp_region_che (by kernel_rfl) aqT (by kernel_rfl) (by kernel_rfl) hl (fun i => a0.tmps[i + 47]?.getD undef) (by rw [ha0]; rfl) (0) (fun _ _ => True) [6, 7, 8, 11] (by kernel_rfl) (by decide) (by decide) (fun _ => True) (aqV t bx ov q) (adR w0 t bx n H ov l q) (Nat.zero_le _) trivial H0.out (fun _ _ _ _ h => h) (fun i v w w' _ _ h => aqV.keep _ _ _ _ i v w w' (.inr trivial) h) (fun k us us' w w' h _ hb hR => adR.keep _ _ _ _ _ _ _ _ k us us' w w' h hb hR) ⟨?_, ?_, ?_, ?_, ?_, ?_, ?_, ?_, ?_, ?_, ?_, ?_, trivial⟩ ?_
  · refine stepE_val [] (by kernel_rfl) (by decide) (by decide) rfl fun us w' hB hG hV => ?_
    have o0 := (frame_old2 (us := us) (a := a0) (show (aqT[0]?).join = none from rfl)).trans k0
    generalize frame aqT a0 us = fr at *
    exact val_C (v := .pointer (some ⟨t, 0, none⟩)) (w' := w') (by go_simp) (Below.refl _ _) rfl
  · refine stepE_val [] (by kernel_rfl) (by decide) (by decide) rfl fun us w' hB hG hV => ?_
    have o0 := (frame_old2 (us := us) (a := a0) (show (aqT[0]?).join = none from rfl)).trans k0
    generalize frame aqT a0 us = fr at *
    exact val_C (v := .pointer (some ⟨t, 0, none⟩)) (w' := w') (by go_simp) (Below.refl _ _) rfl
  · refine stepE_val [1] (by kernel_rfl) (by decide) (by decide) rfl fun us w' hB hG hV => ?_
    have e1 : us 1 = .pointer (some ⟨t, 0, none⟩) := hV 1 (by simp)
    have v1 := (frame_at2 (us := us) hl (show (aqT[48]?).join = some 1 from rfl)).trans e1
    generalize frame aqT a0 us = fr at *
    exact val_C (v := .pointer (some ⟨t, 0, none⟩)) (w' := w') (by go_simp) (Below.refl _ _) rfl
  · refine stepE_val [2] (by kernel_rfl) (by decide) (by decide) rfl fun us w' hB hG hV => ?_
    have e2 : us 2 = .pointer (some ⟨t, 0, none⟩) := hV 2 (by simp)
    have v2 := (frame_at2 (us := us) hl (show (aqT[49]?).join = some 2 from rfl)).trans e2
    generalize frame aqT a0 us = fr at *
    exact val_C (v := .pointer (some ⟨t, 1, none⟩)) (w' := w') (by go_simp) (Below.refl _ _) rfl
  · refine stepE_early 0 2 (.inl rfl) (.inr ⟨_, _, rfl, rfl, by kernel_rfl⟩) [3] (by kernel_rfl) (by decide) (by decide) rfl fun us w' k hB hG hV hk hR => ?_
    have e3 : us 3 = .pointer (some ⟨t, 1, none⟩) := hV 3 (by simp)
    have v3 := (frame_at2 (us := us) hl (show (aqT[50]?).join = some 3 from rfl)).trans e3
    have hrw : w'.heap[t]? = some (.cells H 69 (0, 0)) := by
      obtain ⟨h1, h2⟩ := hk
      match k, h1, h2, hR with
      | 0, _, _, hR => exact hR.1
      | 1, _, _, hR => exact hR.1
      | 2, _, _, hR => exact hR.1
    have hc : w'.cell? ⟨t, 1, none⟩ = some ov := (cell_of_row w' t 1 _ _ (0, 0) hrw).trans HH.out
    generalize frame aqT a0 us = fr at *
    exact val_C (v := ov) (w' := w') (by go_simp) (Below.refl _ _) rfl
  · refine stepE_early 0 0 (.inl rfl) (.inr ⟨_, _, rfl, rfl, by kernel_rfl⟩) [] (by kernel_rfl) (by decide) (by decide) rfl fun us w' k hB hG hV hk hR => ?_
    have o3 := (frame_old2 (us := us) (a := a0) (show (aqT[3]?).join = none from rfl)).trans k3
    have hg1 := (show w'.heap[bx]? = some (.cells q.V 49 (0, 0)) from by obtain ⟨h1, h2⟩ := hk; obtain rfl : k = 0 := (by omega); exact hR.2.1.1)
    generalize frame aqT a0 us = fr at *
    exact load_C 49 3 rfl (bx) o3 _ _ (0, 0) _ hg1 Try.underlying49 rfl IX.out rfl
  · refine stepE_chain 0 rfl (by decide) [5] (by kernel_rfl) (by decide) rfl fun us w' hB hG hV hR => ?_
    have e5 : us 5 = .agg q.V := hV 5 (by simp)
    have v5 := (frame_at2 (us := us) hl (show (aqT[52]?).join = some 5 from rfl)).trans e5
    obtain ⟨a1, ⟨a2, a2'⟩, a3, a4⟩ := (show w'.heap[t]? = some (.cells H 69 (0, 0)) ∧ (w'.heap[bx]? = some (.cells q.V 49 (0, 0)) ∧ KeAt w' w'.heap.size q) ∧ w'.ownsRow 0 49 26 ov n l ∧ Fs (S1 t ov) w0 w' from hR)
    generalize frame aqT a0 us = fr at *
    exact call_J (R := fun v w'' => (True ∧ Below 0 w' w'') ∧ adR w0 t bx n H ov l q 1 (upd us 6 v) w'') (f := 34) (args := #[.agg q.V]) (by go_simp) ((own_any q w' a2' HQ.out).mono fun e w'' ⟨B, d, he, hk, ho, hb⟩ => ⟨_, he, ⟨trivial, hb.mono (Nat.zero_le _)⟩, (hb.block _ (Array.getElem?_eq_some_iff.1 a1).1).trans a1, ⟨B, d, upd_same _ _ _, ⟨hk, fun b o e => ⟨Nat.le_trans a4.size (ho.blk b (by rw [e]; rfl)).1, (ho.blk b (by rw [e]; rfl)).2⟩⟩⟩, owns_below a3 hb, a4.trans (Fs.below hb)⟩)
  · refine stepE_chain 1 rfl (by decide) [] (by kernel_rfl) (by decide) rfl fun us w' hB hG hV hR => ?_
    obtain ⟨a1, ⟨B, d, e6, a2⟩, a3, a4⟩ := (show w'.heap[t]? = some (.cells H 69 (0, 0)) ∧ (∃ B d, us 6 = .agg (ktV q.k B q.n d) ∧ Nq w0 w' q B d) ∧ w'.ownsRow 0 49 26 ov n l ∧ Fs (S1 t ov) w0 w' from hR)
    have v6 := (frame_at2 (us := us) hl (show (aqT[53]?).join = some 6 from rfl)).trans e6
    generalize frame aqT a0 us = fr at *
    exact lit1_J (R := fun v w'' => (True ∧ Below 0 w' w'') ∧ adR w0 t bx n H ov l q 2 (upd us 7 v) w'') 53 61 49 26 rfl _ v6 Try.underlying61 _ _ I0.out I1.out I2.out (ktV_size HK.out) (by decide) (by decide) ⟨⟨trivial, (alloc_below w' _).mono (Nat.zero_le _)⟩, ((alloc_below w' _).block _ (Array.getElem?_eq_some_iff.1 a1).1).trans a1, ⟨B, d, w'.heap.size, upd_same _ _ _, heap_alloc_new w' _, a2.below (alloc_below w' _)⟩, owns_below a3 (alloc_below w' _), a4.trans (Fs.below (alloc_below w' _))⟩
  · refine stepE_chain 2 rfl (by decide) [4] (by kernel_rfl) (by decide) rfl fun us w' hB hG hV hR => ?_
    have e4 : us 4 = ov := hV 4 (by simp)
    have v4 := (frame_at2 (us := us) hl (show (aqT[51]?).join = some 4 from rfl)).trans e4
    obtain ⟨a1, ⟨B, d, z, e7, hz, a2⟩, a3, a4⟩ := (show w'.heap[t]? = some (.cells H 69 (0, 0)) ∧ (∃ B d z, us 7 = .slice (some ⟨z, 0, none⟩) 1 1 ∧ w'.heap[z]? = some (.cells (ktV q.k B q.n d) 49 (0, 0)) ∧ Nq w0 w' q B d) ∧ w'.ownsRow 0 49 26 ov n l ∧ Fs (S1 t ov) w0 w' from hR)
    have v7 := (frame_at2 (us := us) hl (show (aqT[54]?).join = some 7 from rfl)).trans e7
    generalize frame aqT a0 us = fr at *
    exact app1_J (R := fun v w'' => (True ∧ Below 0 w' w'') ∧ adR w0 t bx n H ov l q 3 (upd us 8 v) w'') (.tmp 51) (.tmp 54) 61 49 26 88 rfl Try.underlying61 _ _ I0.out I1.out I2.out I3.out ZS.out (by decide) (by decide) _ _ _ (eval_tmp v4) a3 HN.out z _ (eval_tmp v7) hz (ktV_size HK.out) (fun u hu => kt_one u (by simpa [ktV] using hu)) fun g' c' w'' h6 h2 h3 => ⟨⟨trivial, ⟨h3.os, h3.tape, h3.output, h3.size, fun q hq => absurd hq (Nat.not_lt_zero q)⟩⟩, (h3.block _ (Array.getElem?_eq_some_iff.1 a1).1 (fun e => TN.out e.symm)).trans a1, ⟨B, d, g', c', upd_same _ _ _, a2.stand h3.size (fun b o e => h3.block b (a2.blk b o e).2 (fun e2 => absurd (VL.out b e2.symm) (Nat.not_lt.2 (a2.blk b o e).1))), (fun b o e e2 => h6.elim (fun h9 => absurd (VL.out g' h9) (Nat.not_lt.2 (e2 ▸ (a2.blk b o e).1))) (fun h9 => absurd (a2.blk b o e).2 (Nat.not_lt.2 (Nat.le_of_eq (e2.trans h9).symm)))), h6.imp id (fun e => by rw [e]; exact a4.size), by simpa [ktV] using h2⟩, trivial, a4.trans (fs_grown h3)⟩
  · refine stepE_val [0] (by kernel_rfl) (by decide) (by decide) rfl fun us w' hB hG hV => ?_
    have e0 : us 0 = .pointer (some ⟨t, 0, none⟩) := hV 0 (by simp)
    have v0 := (frame_at2 (us := us) hl (show (aqT[47]?).join = some 0 from rfl)).trans e0
    generalize frame aqT a0 us = fr at *
    exact val_C (v := .pointer (some ⟨t, 0, none⟩)) (w' := w') (by go_simp) (Below.refl _ _) rfl
  · refine stepE_val [9] (by kernel_rfl) (by decide) (by decide) rfl fun us w' hB hG hV => ?_
    have e9 : us 9 = .pointer (some ⟨t, 0, none⟩) := hV 9 (by simp)
    have v9 := (frame_at2 (us := us) hl (show (aqT[56]?).join = some 9 from rfl)).trans e9
    generalize frame aqT a0 us = fr at *
    exact val_C (v := .pointer (some ⟨t, 1, none⟩)) (w' := w') (by go_simp) (Below.refl _ _) rfl
  · refine stepE_chain 3 rfl (by decide) [10] (by kernel_rfl) (by decide) rfl fun us w' hB hG hV hR => ?_
    have e10 : us 10 = .pointer (some ⟨t, 1, none⟩) := hV 10 (by simp)
    have v10 := (frame_at2 (us := us) hl (show (aqT[57]?).join = some 10 from rfl)).trans e10
    obtain ⟨a1, ⟨B, d, g', c', e8, a2, a3, a6, a7⟩, -, a4⟩ := (show w'.heap[t]? = some (.cells H 69 (0, 0)) ∧ (∃ B d g' c', us 8 = .slice (some ⟨g', 0, none⟩) (n + 1) c' ∧ Nq w0 w' q B d ∧ (∀ b o, B = some ⟨b, o, none⟩ → b ≠ g') ∧ (ov.ownBlock = some g' ∨ w0.heap.size ≤ g') ∧ w'.ownsRow 0 49 26 (.slice (some ⟨g', 0, none⟩) (n + 1) c') (n + 1) (l ++ ktL q.k B q.n d)) ∧ True ∧ Fs (S1 t ov) w0 w' from hR)
    have v8 := (frame_at2 (us := us) hl (show (aqT[55]?).join = some 8 from rfl)).trans e8
    have hc : w'.cell? ⟨t, 1, none⟩ = some ov := (cell_of_row w' t 1 _ _ (0, 0) a1).trans HH.out
    have hf : w'.frozen? ⟨t, 1, none⟩ = false := frozen_of_row w' t 1 _ _ a1
    have hgt : g' ≠ t := fun e => a6.elim (fun h9 => TN.out (e ▸ h9)) (fun h9 => absurd TL.out (Nat.not_lt.2 (e ▸ h9)))
    generalize frame aqT a0 us = fr at *
    exact free_skip (w' := w'.setCell ⟨t, 1, none⟩ (.slice (some ⟨g', 0, none⟩) (n + 1) c')) (by go_simp) ⟨undef, rfl, ⟨trivial, (Below.refl 0 w').setCell (p := ⟨t, 1, none⟩) (Nat.zero_le _) _⟩, trivial, ⟨B, d, g', c', heap_setCell_same w' t 1 _ _ _ a1, a2.stand (by simp [World.setCell]) (fun b o e => heap_setCell_other _ _ _ _ (show b ≠ t from fun e2 => absurd TL.out (Nat.not_lt.2 (e2 ▸ (a2.blk b o e).1)))), a3, a6, owns_stand a7 (fun g hg => heap_setCell_other _ _ _ _ (show g ≠ t from fun e2 => hgt ((show g' = g from Option.some.inj hg).trans e2)))⟩, trivial, a4.trans (Fs.but ((But.refl w').setCell 1 _) (.inl rfl))⟩
  · intro us w5 hB hG hV hR
    obtain ⟨-, ⟨B, d, g', c', b1, b2, b3, b4, b5⟩, -, b6⟩ := (show True ∧ (∃ B d g' c', w5.heap[t]? = some (.cells (H.setIfInBounds 1 (.slice (some ⟨g', 0, none⟩) (n + 1) c')) 69 (0, 0)) ∧ Nq w0 w5 q B d ∧ (∀ b o, B = some ⟨b, o, none⟩ → b ≠ g') ∧ (ov.ownBlock = some g' ∨ w0.heap.size ≤ g') ∧ w5.ownsRow 0 49 26 (.slice (some ⟨g', 0, none⟩) (n + 1) c') (n + 1) (l ++ ktL q.k B q.n d)) ∧ True ∧ Fs (S1 t ov) w0 w5 from hR)
    have HE1 := Lib.hid b1
    have HE2 := Lib.hid b2
    have HE3 := Lib.hid b3
    have HE4 := Lib.hid b4
    have HE5 := Lib.hid b5
    have HE6 := Lib.hid b6
    have RB5 := Lib.hid (show w5.heap[bx]? = some (.cells q.V 49 (0, 0)) from (b6.block bx (lt_of_row RBX.out) (fun h9 => h9.elim (fun e => NBX.out.1 e) (fun e => NBX.out.2 e))).trans RBX.out)
    have c9 := kt_cell RB5.out kt_n
    subst ha0
    simp only [frame, aqT, fill]
    clear hV hR hG hl k0 k3 b1 b2 b3 b4 b5 b6 hB
    go_wp2_with fail
    go_ret2
    refine (congrArg (fun x => TurnR Tb w S t (.tuple #[.int .i64 (addN rg qa.val), .int .i64 (addErr rg qa.val)]) (addR rg qa.val) (.returned (.tuple #[.int .i64 x, .int .i64 0])) w5) N1.out).mpr ?_
    have b1 := HE1.out
    have b2 := HE2.out
    have b4 := HE4.out
    have b5 := HE5.out
    have b6 := HE6.out
    rw [HHE.out] at b1
    rw [HQ1.out] at b2 b5
    rw [HOV.out] at b4 b6
    rw [HLL.out] at b5
    exact added HH0.out HE.out B5.out b1 b2 HE3.out b4 b5 b6
end Go.Proofs.Ytflfkhcbkhdahaa.mkC
