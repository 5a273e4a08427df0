/-
  5 texts of a proof, joined.
-/
import Derived.Test.YtapcjgmijcpfiaaDoorMg18
import Derived.Lib.SlBytesConst
import Derived.Test.YtapcjgmijcpfiaaDoorMg15
import Derived.Deep.Cut

/-
  Options without all but AO, and with as many pairs as fit: the program's, and the document's.
-/
namespace Go.Proofs.YtapcjgmijcpfiaaDoor.opC
open Go.ChangeShapes Go.WideShapes Go.ChangeAt Go.RowKit
open Go.Proofs.YtapcjgmijcpfiaaDoor.memC Go.Proofs.YtapcjgmijcpfiaaDoor.genC Go.Proofs.YtapcjgmijcpfiaaDoor.butC Go.Proofs.YtapcjgmijcpfiaaDoor.freeC Go.Proofs.YtapcjgmijcpfiaaDoor.adC
set_option linter.unusedVariables false
def bareO (o : Opt) : Opt := if o.ha = true then { zOpt with ha := true, ki := o.ki, ni := o.ni } else zOpt
theorem bareO_ok {o : Opt} (h : o.Ok) : (bareO o).Ok := by
  unfold bareO
  split
  · exact { zOpt_ok with ki := h.ki, ni := h.ni }
  · exact zOpt_ok
theorem bare_sk (o : Opt) : (bareO o).sk = [] := by unfold bareO; split <;> rfl
theorem bare_built (ki ni : Int) : Tryd.prog.built 27 [(9, .bool true), (10, .int .u8 ki), (11, .int .u8 ni)] = some (optV { zOpt with ha := true, ki := ki, ni := ni } none 0 0) := by kernel_rfl
theorem built3_run {P : Program} {fr : Act} {o : Oper} {w : World} {T : TypeId} {i0 i1 i2 : Nat} {x0 x1 x2 : Operand} {v0 v1 v2 : Value} {C : Array Value} (ho : o.op = .build T #[(i0, x0), (i1, x1), (i2, x2)])
    (h0 : fr.eval x0 = v0) (h1 : fr.eval x1 = v1) (h2 : fr.eval x2 = v2) (hb : P.built T [(i0, v0), (i1, v1), (i2, v2)] = some C) : (execOp fr.eval o).run P w = .ok (.value (.agg C)) w := by
  unfold execOp
  have h : (Instr.build T #[(i0, v0), (i1, v1), (i2, v2)]).run P w = .ok (.agg C) w := run_build w T _ C hb
  simp [ho, h0, h1, h2, h, Result.andThen_ok]
theorem setR_below {w w1 : World} {g : Nat} (h : Below w.heap.size w w1) (hg : w.heap.size ≤ g) (cs : Array Value) : Below w.heap.size w (w1.setRow g cs) :=
  ⟨h.os, h.tape, h.output, by simpa using h.size, fun k hk => by rw [setRow_other _ _ _ _ (by omega)]; exact h.block k hk⟩
set_option maxRecDepth 100000 in
theorem cbare_any (o : Opt) (A : Option Addr) (n c : Nat) (w : World) (hl : o.mac.length = 12) : Calls Tryd.prog 18 #[.agg (optV o A n c)] w (Ret w (.agg (optV (bareO o) none 0 0))) := by
  have hzv := zeroOpt
  obtain ⟨W, hW⟩ : ∃ W, W = (w.alloc (.cells (optV o A n c) 27)).alloc (.cells (optV zOpt none 0 0) 27) := ⟨_, rfl⟩
  have e1 : (w.alloc (.cells (optV o A n c) 27)).heap.size = w.heap.size + 1 := alloc_size _ _
  have R0 : OptAt W w.heap.size o A n c := by unfold OptAt; rw [hW, Below.block (alloc_below _ _) _ (by rw [e1]; omega)]; exact heap_alloc_new w _
  have Z0 := Lib.hid (show W.heap[w.heap.size + 1]? = some (.cells (optV zOpt none 0 0) 27 (0, 0)) by rw [hW, ← e1]; exact heap_alloc_new _ _)
  have BB := Lib.hid (show Below w.heap.size w W by rw [hW]; exact ((Below.refl _ _).alloc (Nat.le_refl _) _).alloc (by simp) _)
  have k9 := pkC.PkC.cell R0 (optC hl A n c).ha
  have k10 := pkC.PkC.cell R0 (optC hl A n c).ki
  have k11 := pkC.PkC.cell R0 (optC hl A n c).ni
  have OB := Lib.hid (opt_one (bareO o) none 0 0)
  have IB := Lib.hid (optC (o := bareO o) (by unfold bareO; split <;> rfl) none 0 0).info
  have SB := Lib.hid (show (optV zOpt none 0 0).size = (optV (bareO o) none 0 0).size by rw [(optC zOpt_ok.lm none 0 0).size, (optC (o := bareO o) (by unfold bareO; split <;> rfl) none 0 0).size])
  cases hb : o.ha
  · rw [hb] at k9
    have EB := Lib.hid (show Tryd.prog.built 27 [] = some (optV (bareO o) none 0 0) by unfold bareO; rw [if_neg (by rw [hb]; decide)]; exact zOpt_built)
    generalize optV (bareO o) none 0 0 = CB at *
    clear hb R0 e1 k10 k11
    go_enter Tryd.func18, Tryd.ntmps18
    go_upto_region 1 with fail
    rw [← hW]
    clear hW hzv
    go_wp2_with (first
      | (with_reducible refine at_build 27 ?_; refine wpList_runG (by kernel_rfl) _ (built_run (T := 27) rfl EB.out) ?_)
      | (refine wpList_store_row rfl 27 (.tmp 2) (.tmp 6) rfl (w.heap.size + 1) CB rfl rfl _ _ Z0.out IB.out SB.out OB.out ?_))
    refine bodyPost_ret (v := .agg CB) (Go.results_cell_row Tryd.results18 _ _ (w.heap.size + 1) _ _ _ _ (by rfl) (setRow_heap _ _ _ _ _ _ Z0.out) Tryd.underlying27 rfl IB.out) rfl ?_
    exact ⟨rfl, setR_below BB.out (by omega) _⟩
  · rw [hb] at k9
    have EB := Lib.hid (show Tryd.prog.built 27 [(9, .bool true), (10, .int .u8 o.ki), (11, .int .u8 o.ni)] = some (optV (bareO o) none 0 0) by unfold bareO; rw [if_pos hb]; exact bare_built _ _)
    generalize optV (bareO o) none 0 0 = CB at *
    generalize o.ki = ki at *
    generalize o.ni = ni at *
    clear hb R0 e1
    go_enter Tryd.func18, Tryd.ntmps18
    go_upto_region 1 with fail
    rw [← hW]
    clear hW hzv
    go_wp2_with (first
      | (with_reducible refine at_build 27 ?_; refine wpList_runG (by kernel_rfl) _ (built3_run (T := 27) (v0 := .bool true) (v1 := .int .u8 ki) (v2 := .int .u8 ni) rfl (by kernel_rfl) (by kernel_rfl) (by kernel_rfl) EB.out) ?_)
      | (refine wpList_store_row rfl 27 (.tmp 2) (.tmp 11) rfl (w.heap.size + 1) CB rfl rfl _ _ Z0.out IB.out SB.out OB.out ?_))
    refine bodyPost_ret (v := .agg CB) (Go.results_cell_row Tryd.results18 _ _ (w.heap.size + 1) _ _ _ _ (by rfl) (setRow_heap _ _ _ _ _ _ Z0.out) Tryd.underlying27 rfl IB.out) rfl ?_
    exact ⟨rfl, setR_below BB.out (by omega) _⟩
set_option maxRecDepth 100000 in
theorem rbare_any (o : Opt) (A : Option Addr) (n c : Nat) (w : World) (hl : o.mac.length = 12) : Calls Tryd.prog 19 #[.agg (optV o A n c)] w (Ret w (.agg (optV (bareO o) none 0 0))) := by
  have hzv := zeroOpt
  obtain ⟨W, hW⟩ : ∃ W, W = (w.alloc (.cells (optV o A n c) 27)).alloc (.cells (optV zOpt none 0 0) 27) := ⟨_, rfl⟩
  have e1 : (w.alloc (.cells (optV o A n c) 27)).heap.size = w.heap.size + 1 := alloc_size _ _
  have R0 : OptAt W w.heap.size o A n c := by unfold OptAt; rw [hW, Below.block (alloc_below _ _) _ (by rw [e1]; omega)]; exact heap_alloc_new w _
  have Z0 := Lib.hid (show W.heap[w.heap.size + 1]? = some (.cells (optV zOpt none 0 0) 27 (0, 0)) by rw [hW, ← e1]; exact heap_alloc_new _ _)
  have BB := Lib.hid (show Below w.heap.size w W by rw [hW]; exact ((Below.refl _ _).alloc (Nat.le_refl _) _).alloc (by simp) _)
  have k9 := pkC.PkC.cell R0 (optC hl A n c).ha
  have k10 := pkC.PkC.cell R0 (optC hl A n c).ki
  have k11 := pkC.PkC.cell R0 (optC hl A n c).ni
  have OB := Lib.hid (opt_one (bareO o) none 0 0)
  have IB := Lib.hid (optC (o := bareO o) (by unfold bareO; split <;> rfl) none 0 0).info
  have SB := Lib.hid (show (optV zOpt none 0 0).size = (optV (bareO o) none 0 0).size by rw [(optC zOpt_ok.lm none 0 0).size, (optC (o := bareO o) (by unfold bareO; split <;> rfl) none 0 0).size])
  cases hb : o.ha
  · rw [hb] at k9
    have EB := Lib.hid (show Tryd.prog.built 27 [] = some (optV (bareO o) none 0 0) by unfold bareO; rw [if_neg (by rw [hb]; decide)]; exact zOpt_built)
    generalize optV (bareO o) none 0 0 = CB at *
    clear hb R0 e1 k10 k11
    go_enter Tryd.func19, Tryd.ntmps19
    go_upto_region 1 with fail
    rw [← hW]
    clear hW hzv
    go_wp2_with (first
      | (with_reducible refine at_build 27 ?_; refine wpList_runG (by kernel_rfl) _ (built_run (T := 27) rfl EB.out) ?_)
      | (refine wpList_store_row rfl 27 (.tmp 2) (.tmp 6) rfl (w.heap.size + 1) CB rfl rfl _ _ Z0.out IB.out SB.out OB.out ?_))
    refine bodyPost_ret (v := .agg CB) (Go.results_cell_row Tryd.results19 _ _ (w.heap.size + 1) _ _ _ _ (by rfl) (setRow_heap _ _ _ _ _ _ Z0.out) Tryd.underlying27 rfl IB.out) rfl ?_
    exact ⟨rfl, setR_below BB.out (by omega) _⟩
  · rw [hb] at k9
    have EB := Lib.hid (show Tryd.prog.built 27 [(9, .bool true), (10, .int .u8 o.ki), (11, .int .u8 o.ni)] = some (optV (bareO o) none 0 0) by unfold bareO; rw [if_pos hb]; exact bare_built _ _)
    generalize optV (bareO o) none 0 0 = CB at *
    generalize o.ki = ki at *
    generalize o.ni = ni at *
    clear hb R0 e1
    go_enter Tryd.func19, Tryd.ntmps19
    go_upto_region 1 with fail
    rw [← hW]
    clear hW hzv
    go_wp2_with (first
      | (with_reducible refine at_build 27 ?_; refine wpList_runG (by kernel_rfl) _ (built3_run (T := 27) (v0 := .bool true) (v1 := .int .u8 ki) (v2 := .int .u8 ni) rfl (by kernel_rfl) (by kernel_rfl) (by kernel_rfl) EB.out) ?_)
      | (refine wpList_store_row rfl 27 (.tmp 2) (.tmp 11) rfl (w.heap.size + 1) CB rfl rfl _ _ Z0.out IB.out SB.out OB.out ?_))
    refine bodyPost_ret (v := .agg CB) (Go.results_cell_row Tryd.results19 _ _ (w.heap.size + 1) _ _ _ _ (by rfl) (setRow_heap _ _ _ _ _ _ Z0.out) Tryd.underlying27 rfl IB.out) rfl ?_
    exact ⟨rfl, setR_below BB.out (by omega) _⟩
/-- append(own, pairs...), the result written out -/
theorem wpList_appP {ops : Array Oper} {rest : List Oper} {o : Oper} {a : Act} {Q : Exit → Act → World → Prop} (w : World) (hgd : o.guard = none) (s x : Operand)
    (ho : o.op = .call { callee := .builtin .append, args := #[s, x], argTypes := #[23, 23] }) (base : Nat) (v : Value) (ps : List (Int × Int)) (hs : a.eval s = v) (hown : OwnP w base v ps)
    (B : Nat) (A : Option Addr) (m c : Nat) (qs : List (Int × Int)) (hx : a.eval x = .slice A m c) (hr : Prs w B A m qs) (hl : ps.length + m ≤ 1000000) (hbase : base ≤ w.heap.size) (L : Nat) (hL : ps.length + m = L)
    (h : ∀ A' c' w', L ≤ c' → OwnP w' base (.slice A' L c') (ps ++ qs) → Below base w w' → wpList Tryd.prog ops Q rest (a.put o.dst (.slice A' L c')) w') : wpList Tryd.prog ops Q (o :: rest) a w := by
  obtain ⟨v', w', hrun, h2, h3⟩ := run_appP w base v ps hown o.type B A m c qs hr hl hbase
  refine wpList_plain hgd fun K hK => ?_
  unfold Oper.wp execOp
  simp only [ho, resolve, invoke, builtin, Sem.run_bind, Sem.run_pure, Result.andThen_ok, List.map_toArray, List.map_cons, List.map_nil, hs, hx, hrun]
  refine hK _ _ ?_
  have e : (ps ++ qs).length = L := by rw [List.length_append, hr.len]; exact hL
  obtain ⟨A', c', e2, g1, g2, N⟩ := h2.form
  rw [e] at e2 g1
  subst e2
  exact h A' c' w' g1 h2 (grown_below h3 hbase fun g hg => (hown.blk g hg).1)
/-- pairs copied -/
def PrRet (w : World) (ps : List (Int × Int)) (e : Ending) (w' : World) : Prop := ∃ A c, e = .returned (.slice A ps.length c) ∧ ps.length ≤ c ∧ OwnP w' w.heap.size (.slice A ps.length c) ps ∧ Below w.heap.size w w'
theorem pclone_any (A : Option Addr) (n c : Nat) (ps : List (Int × Int)) (w : World) (hb : Prs w w.heap.size A n ps) (hn : n ≤ 100000) :
    Calls Tryd.prog 31 #[.slice A n c] w (PrRet w ps) := by
  have q := fun (w : World) (a : Option Addr) (n c n' c' : Nat) => Lib.run_eql_slice_nil (P := Tryd.prog) w _ _ a n c n' c' Tryd.underlying23
  rcases A with _ | ad
  · have h0 : n = 0 := by
      rcases Nat.eq_zero_or_pos n with h | h
      · exact h
      · obtain ⟨b, o, h, _⟩ := hb.at_ h; cases h
    subst h0
    obtain rfl := hb.zero
    clear hb hn
    go_enter Tryd.func31, Tryd.ntmps31
    go_wp2
    go_ret
    exact ⟨none, 0, rfl, Nat.le_refl _, OwnP.nil _ _, Below.refl _ _⟩
  · have O1 : OwnP (w.alloc (.cells #[] 43)) w.heap.size (.slice (some ⟨w.heap.size, 0, none⟩) 0 0) [] := World.ownsRow_lit w #[] 0 (Nat.le_refl _) (Nat.zero_le _) rfl
    have B1 : Below w.heap.size w (w.alloc (.cells #[] 43)) := (Below.refl _ _).alloc (Nat.le_refl _) _
    have hl := hb.len
    have O2 := Lib.hid O1
    have B2 := Lib.hid B1
    have P1 := Lib.hid (hb.below B1)
    have HN := Lib.hid hn
    have HL := Lib.hid hl
    clear O1 B1 hb hn hl
    go_enter Tryd.func31, Tryd.ntmps31
    go_wp2_with (at_builtin
                 (refine wpList_appP _ rfl (.tmp 5) (.tmp 6) rfl w.heap.size _ [] rfl O2.out w.heap.size _ n c ps rfl P1.out (by have := HN.out; simp; omega) B2.out.size n (by simp) ?_)
                 intro A3 c3 w3 g3 O3 B3
                 have HO := Lib.hid O3
                 have HG := Lib.hid g3
                 have HB := Lib.hid (B2.out.trans B3)
                 clear O3 B3 g3)
    go_ret
    have e := HL.out
    subst e
    exact ⟨A3, c3, rfl, HG.out, by simpa using HO.out, HB.out⟩
def fitA (o : Opt) : Nat → Nat
  | 0 => 0
  | k + 1 => if sizeN { o with sk := o.sk.take (k + 1) } ≤ 40 then k + 1 else fitA o k
def fitN (o : Opt) : Nat := fitA o (min o.sk.length 4)
def fitO (o : Opt) : Opt := { o with sk := o.sk.take (fitN o) }
theorem fitA_le (o : Opt) : ∀ k, fitA o k ≤ k
  | 0 => Nat.le_refl _
  | k + 1 => by
    unfold fitA
    split
    · exact Nat.le_refl _
    · exact Nat.le_succ_of_le (fitA_le o k)
theorem fitN_le (o : Opt) : fitN o ≤ o.sk.length ∧ fitN o ≤ 4 := by have := fitA_le o (min o.sk.length 4); unfold fitN; omega
theorem take_ok {o : Opt} (h : o.Ok) (k : Nat) : ({ o with sk := o.sk.take k } : Opt).Ok := { h with sk := fun p hp => h.sk p (List.mem_of_mem_take hp) }
theorem fitO_len (o : Opt) : (fitO o).sk.length = fitN o := by
  have := (fitN_le o).1
  unfold fitO
  simp only [List.length_take]
  omega
/-- options with as many pairs as fit -/
def FitRet (w : World) (o : Opt) (e : Ending) (w' : World) : Prop :=
  ∃ A c, e = .returned (.agg (optV (fitO o) A (fitN o) c)) ∧ fitN o ≤ c ∧ Prs w' w'.heap.size A (fitN o) (fitO o).sk ∧ Below w.heap.size w w'
end Go.Proofs.YtapcjgmijcpfiaaDoor.opC

/-
  One more option that is read: the program's.
-/
namespace Go.Proofs.YtapcjgmijcpfiaaDoor.opC
open Go.ChangeShapes Go.WideShapes Go.ChangeAt Go.RowKit
open Go.Proofs.YtapcjgmijcpfiaaDoor.memC Go.Proofs.YtapcjgmijcpfiaaDoor.genC Go.Proofs.YtapcjgmijcpfiaaDoor.butC Go.Proofs.YtapcjgmijcpfiaaDoor.freeC Go.Proofs.YtapcjgmijcpfiaaDoor.adC
open Go.Proofs.YtapcjgmijcpfiaaDoor.octC (Fr Rd RdD stopped getZ)
set_option linter.unusedVariables false
/-- options that are being read, in block g -/
structure St (w : World) (g : Nat) (o : Opt) (A : Option Addr) (n c : Nat) : Prop where
  row : OptAt w g o A n c
  mac : o.mac.length = 12
  len : o.sk.length = n
  own : OwnP w (g + 1) (.slice A n c) o.sk
  nil : o.sk = [] → A = none ∧ n = 0 ∧ c = 0
theorem St.lt {w : World} {g : Nat} {o : Opt} {A : Option Addr} {n c : Nat} (h : St w g o A n c) : g < w.heap.size := h.row.lt
theorem St.fr {S : Nat → Prop} {w w' : World} {g : Nat} {o : Opt} {A : Option Addr} {n c : Nat} (h : St w g o A n c) (F : Fr S w w') (hg : ¬ S g) (ho : ∀ k, (Value.slice A n c).ownBlock = some k → ¬ S k) : St w' g o A n c :=
  ⟨(show w'.heap[g]? = _ by rw [F.block _ h.lt hg]; exact h.row), h.mac, h.len, by
    have O := h.own
    refine ⟨O.1, ?_⟩
    rcases O.2 with h0 | ⟨k, cap, cur, e, hb, hh, h'⟩
    · exact .inl h0
    · have hb2 := (OwnP.blk O k (by rw [e]; rfl)).2
      exact .inr ⟨k, cap, cur, e, hb, (F.block k hb2 (ho k (by rw [e]; rfl))).trans hh, h'⟩, h.nil⟩
theorem St.bel {w w' : World} {g : Nat} {o : Opt} {A : Option Addr} {n c : Nat} (h : St w g o A n c) (B : Below w.heap.size w w') : St w' g o A n c := h.fr (S := fun _ => False) (Fr.below B) (fun h => h) fun _ _ h => h
/-- a store into the options -/
theorem St.set_ {w : World} {g : Nat} {o o' : Opt} {A : Option Addr} {n c : Nat} (h : St w g o A n c) (j : Nat) (v : Value) (e : (optV o A n c).setIfInBounds j v = optV o' A n c) (hs : o'.sk = o.sk) (hm : o'.mac.length = 12) : St (w.setCell ⟨g, j, none⟩ v) g o' A n c :=
  ⟨h.row.set_ j v e, hm, by rw [hs]; exact h.len, by
    have O := h.own
    unfold OwnP at O ⊢
    rw [hs]
    exact OwnP.keep (ps := o.sk) h.own (fun k h1 h2 => Below.heap_setCell _ _ _ _ (by show k ≠ g; omega)), by rw [hs]; exact h.nil⟩
def AddR (w : World) (q g : Nat) (o' : Opt) (e : Ending) (w' : World) : Prop := e = .returned (.tuple #[]) ∧ Fr (fun x => x = q ∨ x = g) w w' ∧ ∃ A n c, St w' g o' A n c
theorem frq {q g : Nat} {w w' : World} (h : Fr (· = q) w w') : Fr (fun x => x = q ∨ x = g) w w' := h.mono fun _ _ h => .inl h
theorem fr_set {q g j : Nat} {w w' : World} (h : Fr (fun x => x = q ∨ x = g) w w') (v : Value) : Fr (fun x => x = q ∨ x = g) w (w'.setCell ⟨g, j, none⟩ v) := by
  refine ⟨h.os, h.tape, h.output, by simpa [World.setCell] using h.size, fun k hk hn => ?_⟩
  rw [Below.heap_setCell _ _ _ _ (show k ≠ g from fun e => hn (.inr e))]
  exact h.block k hk hn
theorem left_any {q B : Nat} {b : List Int} {w : World} (h : RdD w q B b) : Calls Tryd.prog 39 #[.pointer (some ⟨q, 0, none⟩)] w fun e w' => e = .returned (.int .i64 (b.length : Nat)) ∧ w' = w := by
  obtain ⟨A, n, c, h1, h2, h3, N, h4⟩ := h
  rw [N.len]
  exact (octC.left_some q A n c w h1).mono fun e w' h => ⟨h.1, h.2.symm⟩
theorem run_arrayAt {P : Program} {t e : TypeId} {n : Nat} (ht : P.underlying t = some (.array n e)) (A : Option Addr) (l c : Nat) (h : n ≤ l) (w : World) : (Instr.arrayAt t (.slice A l c)).run P w = .ok (.pointer A) w := by
  unfold Instr.arrayAt
  rw [Sem.run_bind, run_underlying ht w]
  simp [Nat.not_lt.2 h]
theorem mac_cells {w : World} {g : Nat} {M : List Int} (hM : M.length = 12) (h : ∀ j, j < 12 → w.cell? ⟨g, j, none⟩ = some (.int .u8 (M.getD j 0))) : ∀ j v, (macL M)[j]? = some v → w.cell? ⟨g, 0 + j, none⟩ = some v := by
  intro j v hv
  have hj : j < 12 := by
    have := (List.getElem?_eq_some_iff.1 hv).1
    simp [macL, hM] at this; exact this
  rw [Nat.zero_add, h j hj]
  have hj2 : j < M.length := by rw [hM]; exact hj
  simp [macL, List.getElem?_eq_getElem hj2] at hv
  rw [← hv]
  simp [List.getD_eq_getElem?_getD, hj2]
section
variable {w : World} {q g B : Nat} {o : Opt} {A : Option Addr} {n c : Nat} {b : List Int}
set_option maxRecDepth 100000 in
set_option maxHeartbeats 1000000 in
theorem add2 (hS : St w g o A n c) (hR : RdD w q B b) (hgq : g < q) (hBg : B ≤ g) (hne : ∀ k, (Value.slice A n c).ownBlock = some k → k ≠ q) (hy : ∀ x ∈ b, Byte x) (hl : b.length = 2) : Calls Tryd.prog 46 #[.pointer (some ⟨g, 0, none⟩), .int .u8 2, .pointer (some ⟨q, 0, none⟩)] w (AddR w q g (addO o 2 b)) := by
  have T := octC.num_okD q B b 2 w hR (by decide) (by decide) (by rw [show octC.fitN 2 = 2 by decide]; omega) (by omega) hy
  unfold octC.NumD at T
  rw [show octC.fitN 2 = 2 by decide, List.take_of_length_le (by omega)] at T
  have zb := getZ_bound hy
  rw [hl] at zb
  have wz : IntKind.u16.wrap (getZ b) = getZ b := IntWalk.u16_in _ (by omega)
  have TT := Lib.hid T
  have HS := Lib.hid hS
  have HG := Lib.hid hgq
  have HN := Lib.hid hne
  show Calls _ _ _ _ (AddR w q g { o with hm := true, ms := getZ b })
  generalize getZ b = z at *
  clear T hS hR hgq hBg hne hy hl zb
  go_enter Tryd.func46, Tryd.ntmps46
  go_upto_region 2 with fail
  go_wp2_with (first
    | (go_at_call 45; refine TT.out.mono ?_; rintro e w1 ⟨rfl, R1, F1⟩
       have FF := Lib.hid F1
       have S1 := Lib.hid (HS.out.fr F1 (by have := HG.out; omega) HN.out)
       have k0 := pkC.PkC.cell S1.out.row (optC S1.out.mac A n c).hm
       have k1 := pkC.PkC.cell S1.out.row (optC S1.out.mac A n c).ms
       have f0 := S1.out.row.frozen 0
       have f1 := S1.out.row.frozen 1
       clear R1 F1))
  go_end0
  exact ⟨rfl, fr_set (fr_set (frq FF.out) _) _, A, n, c, (S1.out.set_ 0 _ (optV_hm true) rfl S1.out.mac).set_ 1 _ (optV_ms z) rfl S1.out.mac⟩
set_option maxRecDepth 100000 in
set_option maxHeartbeats 1000000 in
theorem add3 (hS : St w g o A n c) (hR : RdD w q B b) (hgq : g < q) (hBg : B ≤ g) (hne : ∀ k, (Value.slice A n c).ownBlock = some k → k ≠ q) (hy : ∀ x ∈ b, Byte x) (hl : b.length = 1) : Calls Tryd.prog 46 #[.pointer (some ⟨g, 0, none⟩), .int .u8 3, .pointer (some ⟨q, 0, none⟩)] w (AddR w q g (addO o 3 b)) := by
  have T := octet_ok q B b w hR (by omega) (by omega) hy
  unfold NxR at T
  have hb := getD_byte0 hy 0
  unfold Byte at hb
  have TT := Lib.hid T
  have HS := Lib.hid hS
  have HG := Lib.hid hgq
  have HN := Lib.hid hne
  show Calls _ _ _ _ (AddR w q g { o with hs := true, sc := min (b.getD 0 0) 14 })
  generalize b.getD 0 0 = z at *
  clear T hS hR hgq hBg hne hy hl
  by_cases h14 : z ≤ 14
  · rw [Int.min_eq_left h14]
    go_enter Tryd.func46, Tryd.ntmps46
    go_upto_region 4 with fail
    go_wp2_with (first
      | (go_at_call 40; refine TT.out.mono ?_; rintro e w1 ⟨rfl, R1, F1⟩
         have FF := Lib.hid F1
         have S1 := Lib.hid (HS.out.fr F1 (by have := HG.out; omega) HN.out)
         have k0 := pkC.PkC.cell S1.out.row (optC S1.out.mac A n c).hs
         have k1 := pkC.PkC.cell S1.out.row (optC S1.out.mac A n c).sc
         have f0 := S1.out.row.frozen 2
         have f1 := S1.out.row.frozen 3
         clear R1 F1))
    go_end0
    exact ⟨rfl, fr_set (fr_set (frq FF.out) _) _, A, n, c, (S1.out.set_ 2 _ (optV_hs true) rfl S1.out.mac).set_ 3 _ (optV_sc z) rfl S1.out.mac⟩
  · rw [Int.min_eq_right (by omega)]
    go_enter Tryd.func46, Tryd.ntmps46
    go_upto_region 4 with fail
    go_wp2_with (first
      | (go_at_call 40; refine TT.out.mono ?_; rintro e w1 ⟨rfl, R1, F1⟩
         have FF := Lib.hid F1
         have S1 := Lib.hid (HS.out.fr F1 (by have := HG.out; omega) HN.out)
         have k0 := pkC.PkC.cell S1.out.row (optC S1.out.mac A n c).hs
         have k1 := pkC.PkC.cell S1.out.row (optC S1.out.mac A n c).sc
         have f0 := S1.out.row.frozen 2
         have f1 := S1.out.row.frozen 3
         clear R1 F1))
    go_end0
    exact ⟨rfl, fr_set (fr_set (frq FF.out) _) _, A, n, c, (S1.out.set_ 2 _ (optV_hs true) rfl S1.out.mac).set_ 3 _ (optV_sc 14) rfl S1.out.mac⟩
set_option maxRecDepth 100000 in
set_option maxHeartbeats 1000000 in
theorem add4 (hS : St w g o A n c) (hR : RdD w q B b) (hgq : g < q) (hBg : B ≤ g) (hne : ∀ k, (Value.slice A n c).ownBlock = some k → k ≠ q) (hy : ∀ x ∈ b, Byte x) : Calls Tryd.prog 46 #[.pointer (some ⟨g, 0, none⟩), .int .u8 4, .pointer (some ⟨q, 0, none⟩)] w (AddR w q g (addO o 4 b)) := by
  have HS := Lib.hid hS
  have k4 := pkC.PkC.cell hS.row (optC hS.mac A n c).so
  have f4 := hS.row.frozen 4
  show Calls _ _ _ _ (AddR w q g { o with so := true })
  clear hS hR hgq hBg hne hy
  go_enter Tryd.func46, Tryd.ntmps46
  go_upto_region 6 with fail
  go_wp2_with fail
  go_end0
  exact ⟨rfl, fr_set (Fr.refl _) _, A, n, c, HS.out.set_ 4 _ (optV_so true) rfl HS.out.mac⟩
set_option maxRecDepth 100000 in
set_option maxHeartbeats 2000000 in
theorem add8 (hS : St w g o A n c) (hR : RdD w q B b) (hgq : g < q) (hBg : B ≤ g) (hne : ∀ k, (Value.slice A n c).ownBlock = some k → k ≠ q) (hy : ∀ x ∈ b, Byte x) (hl : b.length = 8) : Calls Tryd.prog 46 #[.pointer (some ⟨g, 0, none⟩), .int .u8 8, .pointer (some ⟨q, 0, none⟩)] w (AddR w q g (addO o 8 b)) := by
  have T1 := Lib.hid (number_ok q B b w hR (by omega) (by omega) hy)
  have T2 := Lib.hid (fun w' (h : RdD w' q B (b.drop 4)) => number_ok q B (b.drop 4) w' h (by rw [List.length_drop]; omega) (by rw [List.length_drop]; omega) (fun x hx => hy x (List.mem_of_mem_drop hx)))
  have e4 : (b.drop 4).take 4 = b.drop 4 := List.take_of_length_le (by rw [List.length_drop]; omega)
  rw [e4] at T2
  unfold NxR at T1 T2
  have HS := Lib.hid hS
  have HG := Lib.hid hgq
  have HN := Lib.hid hne
  show Calls _ _ _ _ (AddR w q g { o with ht := true, va := getZ (b.take 4), ec := getZ (b.drop 4) })
  generalize getZ (b.take 4) = x at *
  generalize getZ (b.drop 4) = y at *
  clear hS hR hgq hBg hne hy hl e4
  go_enter Tryd.func46, Tryd.ntmps46
  go_upto_region 8 with fail
  go_wp2_with (first
    | (go_at_call 49; (with_reducible refine T1.out.mono ?_); rintro e w1 ⟨rfl, R1, F1⟩
       have RR1 := Lib.hid R1
       have FF1 := Lib.hid F1
       clear R1 F1)
    | (go_at_call 49; (refine (T2.out _ RR1.out).mono ?_); rintro e w2 ⟨rfl, R2, F2⟩
       have FF := Lib.hid (FF1.out.trans F2)
       have S1 := Lib.hid (HS.out.fr FF.out (by have := HG.out; omega) HN.out)
       have k6 := pkC.PkC.cell S1.out.row (optC S1.out.mac A n c).ht
       have k7 := pkC.PkC.cell S1.out.row (optC S1.out.mac A n c).va
       have k8 := pkC.PkC.cell S1.out.row (optC S1.out.mac A n c).ec
       have f6 := S1.out.row.frozen 6
       have f7 := S1.out.row.frozen 7
       have f8 := S1.out.row.frozen 8
       clear R2 F2))
  go_end0
  exact ⟨rfl, fr_set (fr_set (fr_set (frq FF.out) _) _) _, A, n, c, ((S1.out.set_ 6 _ (optV_ht true) rfl S1.out.mac).set_ 7 _ (optV_va x) rfl S1.out.mac).set_ 8 _ (optV_ec y) rfl S1.out.mac⟩
set_option maxRecDepth 100000 in
set_option maxHeartbeats 2000000 in
theorem add29 (hS : St w g o A n c) (hR : RdD w q B b) (hgq : g < q) (hBg : B ≤ g) (hne : ∀ k, (Value.slice A n c).ownBlock = some k → k ≠ q) (hy : ∀ x ∈ b, Byte x) (hl : b.length = 14) : Calls Tryd.prog 46 #[.pointer (some ⟨g, 0, none⟩), .int .u8 29, .pointer (some ⟨q, 0, none⟩)] w (AddR w q g (addO o 29 b)) := by
  have T1 := Lib.hid (octet_ok q B b w hR (by omega) (by omega) hy)
  have T2 := Lib.hid (fun w' (h : RdD w' q B (b.drop 1)) => octet_ok q B (b.drop 1) w' h (by rw [List.length_drop]; omega) (by rw [List.length_drop]; omega) (fun x hx => hy x (List.mem_of_mem_drop hx)))
  have T3 := Lib.hid (fun w' (h : RdD w' q B (b.drop 2)) => octC.bytes_okD q B (b.drop 2) 12 12 w' h rfl (by rw [List.length_drop]; omega) (by rw [List.length_drop]; omega))
  have e1 : (b.drop 1).getD 0 0 = b.getD 1 0 := by simp [List.getD_eq_getElem?_getD]
  have e2 : (b.drop 1).drop 1 = b.drop 2 := by rw [List.drop_drop]
  have e3 : (b.drop 2).take 12 = b.drop 2 := List.take_of_length_le (by rw [List.length_drop]; omega)
  have hM : (b.drop 2).length = 12 := by rw [List.length_drop]; omega
  unfold NxR at T1 T2
  unfold octC.ByD at T3
  rw [e1, e2] at T2
  rw [e3] at T3
  have HS := Lib.hid hS
  have HG := Lib.hid hgq
  have HN := Lib.hid hne
  have HM := Lib.hid hM
  have HBG := Lib.hid hBg
  show Calls _ _ _ _ (AddR w q g { o with ha := true, ki := b.getD 0 0, ni := b.getD 1 0, mac := b.drop 2 })
  generalize b.getD 0 0 = x at *
  generalize b.getD 1 0 = y at *
  generalize b.drop 2 = M at *
  clear hS hR hgq hBg hne hy hl e1 e2 e3 hM
  go_enter Tryd.func46, Tryd.ntmps46
  go_upto_region 13 with fail
  go_upto_region 14 with (first
    | (go_at_call 40; (with_reducible refine T1.out.mono ?_); rintro e w1 ⟨rfl, R1, F1⟩
       have RR1 := Lib.hid R1
       have FF1 := Lib.hid F1
       clear R1 F1)
    | (go_at_call 40; (refine (T2.out _ RR1.out).mono ?_); rintro e w2 ⟨rfl, R2, F2⟩
       have RR2 := Lib.hid R2
       have FF := Lib.hid (FF1.out.trans F2)
       have S1 := Lib.hid (HS.out.fr FF.out (by have := HG.out; omega) HN.out)
       have k9 := pkC.PkC.cell S1.out.row (optC S1.out.mac A n c).ha
       have k10 := pkC.PkC.cell S1.out.row (optC S1.out.mac A n c).ki
       have k11 := pkC.PkC.cell S1.out.row (optC S1.out.mac A n c).ni
       have f9 := S1.out.row.frozen 9
       have f10 := S1.out.row.frozen 10
       have f11 := S1.out.row.frozen 11
       clear R2 F2))
  obtain ⟨o3, ho3⟩ : ∃ o3, o3 = { o with ha := true, ki := x, ni := y } := ⟨_, rfl⟩
  have HO3 := Lib.hid ho3
  have S4 := Lib.hid (show St (((w2.setCell ⟨g, 9, none⟩ (.bool true)).setCell ⟨g, 10, none⟩ (.int .u8 x)).setCell ⟨g, 11, none⟩ (.int .u8 y)) g o3 A n c by
    rw [ho3]
    exact ((S1.out.set_ 9 _ (optV_ha true) rfl S1.out.mac).set_ 10 _ (optV_ki x) rfl S1.out.mac).set_ 11 _ (optV_ni y) rfl S1.out.mac)
  clear ho3
  have F4 := Lib.hid (fr_set (j := 11) (fr_set (j := 10) (fr_set (j := 9) (frq (g := g) FF.out) (.bool true)) (.int .u8 x)) (.int .u8 y))
  have R4 := Lib.hid (show RdD (((w2.setCell ⟨g, 9, none⟩ (.bool true)).setCell ⟨g, 10, none⟩ (.int .u8 x)).setCell ⟨g, 11, none⟩ (.int .u8 y)) q B M by
    have hg2 := HG.out
    have hle := RR2.out.le
    have hBg := HBG.out
    have e : ∀ k, k ≠ g → (((w2.setCell ⟨g, 9, none⟩ (.bool true)).setCell ⟨g, 10, none⟩ (.int .u8 x)).setCell ⟨g, 11, none⟩ (.int .u8 y)).heap[k]? = w2.heap[k]? := fun k hk => by
      rw [Below.heap_setCell _ _ _ _ (show k ≠ g from hk), Below.heap_setCell _ _ _ _ (show k ≠ g from hk), Below.heap_setCell _ _ _ _ (show k ≠ g from hk)]
    exact RR2.out.keep (by simp [World.setCell]) (e q (by omega)) fun k hk => e k (by omega))
  generalize ((w2.setCell ⟨g, 9, none⟩ (.bool true)).setCell ⟨g, 10, none⟩ (.int .u8 x)).setCell ⟨g, 11, none⟩ (.int .u8 y) = w4 at *
  clear k9 k10 k11 f9 f10 f11
  have SM := Lib.hid (show 12 + (macL M).toArray.size ≤ (optV o3 A n c).size by
    have h9 := (optC S4.out.mac A n c).size
    have h8 : (macL M).toArray.size = 12 := by simp [macL, HM.out]
    rw [h8]
    exact Nat.le_of_eq h9.symm)
  have IM := Lib.hid (mac_info HM.out)
  have OM := Lib.hid (mac_one M)
  have hat := fun (A : Option Addr) (c : Nat) (w : World) => run_arrayAt (P := Tryd.prog) (t := 25) Tryd.underlying25 A 12 c (by decide) w
  go_wp2_with (first
    | (go_at_call 50; (refine (T3.out _ R4.out).mono ?_); rintro e w5 ⟨A5, c5, rfl, O5, g5, g6, R5, F5⟩
       obtain ⟨g7, hA5, hg7, hl7, hc7, _⟩ := O5.row (by decide)
       have S5 := Lib.hid (S4.out.fr F5 (by have := HG.out; omega) HN.out)
       have F6 := Lib.hid (F4.out.trans (frq F5))
       have C7 := Lib.hid (mac_cells HM.out hc7)
       have RW := Lib.hid (show w5.heap[g]? = some (.cells (optV o3 A n c) 27 (0, 0)) from S5.out.row)
       subst hA5
       clear O5 g5 g6 R5 F5 hg7 hl7 hc7)
    | (refine partC.wpList_load_part rfl 25 (.tmp 86) rfl g7 0 rfl (macL M) _ C7.out Tryd.underlying25 rfl IM.out ?_)
    | (refine partC.wpList_store_part rfl 25 (.tmp 89) (.tmp 87) rfl g 12 (macL M).toArray rfl rfl 27 _ RW.out IM.out SM.out OM.out ?_))
  go_end0
  have em := optV_mac (o := o3) (A := A) (n := n) (c := c) (m := M) S5.out.mac HM.out
  have e3 : ({ o with ha := true, ki := x, ni := y, mac := M } : Opt) = { o3 with mac := M } := by rw [HO3.out]
  rw [e3]
  refine ⟨rfl, ?_, A, n, c, ?_, HM.out, S5.out.len, ?_, S5.out.nil⟩
  · refine ⟨F6.out.os, F6.out.tape, F6.out.output, by simpa using F6.out.size, fun k hk hn => ?_⟩
    rw [setRow_other _ _ _ _ (show k ≠ g from fun e => hn (.inr e))]
    exact F6.out.block k hk hn
  · show (World.heap _)[g]? = _
    rw [← em]
    exact setRow_heap _ _ _ _ _ _ RW.out
  · exact OwnP.keep (ps := o3.sk) S5.out.own fun k h1 h2 => setRow_other _ _ _ _ (by omega)
end
end Go.Proofs.YtapcjgmijcpfiaaDoor.opC

/-
  The pairs that are read: the program's.
-/
namespace Go.Proofs.YtapcjgmijcpfiaaDoor.opC
open Go.ChangeShapes Go.WideShapes Go.ChangeAt Go.RowKit
open Go.Proofs.YtapcjgmijcpfiaaDoor.memC Go.Proofs.YtapcjgmijcpfiaaDoor.genC Go.Proofs.YtapcjgmijcpfiaaDoor.butC Go.Proofs.YtapcjgmijcpfiaaDoor.freeC Go.Proofs.YtapcjgmijcpfiaaDoor.adC
open Go.Proofs.YtapcjgmijcpfiaaDoor.octC (Fr Rd RdD stopped getZ)
set_option linter.unusedVariables false
theorem pairs_snoc : ∀ (i : Nat) (b : List Int), pairsN (i + 1) b = pairsN i b ++ [(getZ ((b.drop (8 * i)).take 4), getZ (((b.drop (8 * i)).drop 4).take 4))]
  | 0, b => rfl
  | i + 1, b => by
    have ih := pairs_snoc i (b.drop 8)
    rw [pairsN, ih, List.drop_drop, show 8 + 8 * i = 8 * (i + 1) by omega]
    rfl
theorem pairs_len : ∀ (n : Nat) (b : List Int), (pairsN n b).length = n
  | 0, _ => rfl
  | n + 1, b => by rw [pairsN, List.length_cons, pairs_len n]
theorem appP_J {R : Value → World → Prop} {fr : Act} {o : Oper} {w : World} {Q : Exit → Act → World → Prop} (s x : Operand) (ho : o.op = .call { callee := .builtin .append, args := #[s, x], argTypes := #[23, 23] })
    (base : Nat) (v : Value) (ps : List (Int × Int)) (hs : fr.eval s = v) (hown : OwnP w base v ps) (B : Nat) (A : Option Addr) (m c : Nat) (qs : List (Int × Int)) (hx : fr.eval x = .slice A m c) (hr : Prs w B A m qs) (hl : ps.length + m ≤ 1000000) (hbase : base ≤ w.heap.size) (L : Nat) (hL : ps.length + m = L)
    (h : ∀ A' c' w', OwnP w' base (.slice A' L c') (ps ++ qs) → w.grownBy w' v.ownBlock → R (.slice A' L c') w') : o.wp Tryd.prog fr w (fun a' w' => ∃ v, a' = fr.put o.dst v ∧ R v w') Q := by
  obtain ⟨v', w', hrun, h2, h3⟩ := run_appP w base v ps hown o.type B A m c qs hr hl hbase
  have e : (ps ++ qs).length = L := by rw [List.length_append, hr.len]; exact hL
  obtain ⟨A', c', e2, g1, g2, N⟩ := h2.form
  rw [e] at e2
  subst e2
  unfold Oper.wp execOp
  simp only [ho, resolve, invoke, builtin, Sem.run_bind, Sem.run_pure, Result.andThen_ok, List.map_toArray, List.map_cons, List.map_nil, hs, hx, hrun]
  exact ⟨_, rfl, h A' c' w' h2 h3⟩
theorem pair_prs {w : World} {z : Nat} {x y : Int} (h : w.heap[z]? = some (.cells #[.int .u32 x, .int .u32 y] 43 (0, 0))) : Prs w w.heap.size (some ⟨z, 0, none⟩) 1 [(x, y)] :=
  ⟨rfl, fun _ => ⟨z, 0, rfl, lt_of_row h, fun i hi => by
    obtain rfl : i = 0 := by omega
    exact ⟨by rw [cell_of_row w z (0 + 0 * 2) _ _ (0, 0) h]; rfl, by rw [cell_of_row w z (0 + 0 * 2 + 1) _ _ (0, 0) h]; rfl⟩⟩⟩
theorem pair_built (x y : Int) : Tryd.prog.built 43 [(0, .int .u32 x), (1, .int .u32 y)] = some #[.int .u32 x, .int .u32 y] := by kernel_rfl
theorem built2_run {P : Program} {fr : Act} {o : Oper} {w : World} {T : TypeId} {i0 i1 : Nat} {x0 x1 : Operand} {v0 v1 : Value} {C : Array Value} (ho : o.op = .build T #[(i0, x0), (i1, x1)])
    (h0 : fr.eval x0 = v0) (h1 : fr.eval x1 = v1) (hb : P.built T [(i0, v0), (i1, v1)] = some C) : (execOp fr.eval o).run P w = .ok (.value (.agg C)) w := by
  unfold execOp
  have h : (Instr.build T #[(i0, v0), (i1, v1)]).run P w = .ok (.agg C) w := run_build w T _ C hb
  simp [ho, h0, h1, h, Result.andThen_ok]
theorem fr_belowO {S : Nat → Prop} {w w' : World} {B : Nat} (h : Fr S w w') (hS : ∀ k, S k → B ≤ k) (hw : B ≤ w.heap.size) : Below B w w' :=
  ⟨h.os, h.tape, h.output, h.size, fun k hk => h.block k (by omega) fun e => by have := hS k e; omega⟩
theorem RdD.keepG {w w' : World} {q B : Nat} {bs : List Int} (h : RdD w q B bs) {r : Option Nat} (hg : w.grownBy w' r) (hr : ∀ k, r = some k → B ≤ k ∧ k ≠ q) : RdD w' q B bs :=
  h.keep (World.grownBy.size hg) (World.grownBy.block hg q h.lt fun e => (hr q e.symm).2 rfl) fun k hk => World.grownBy.block hg k (by have := h.lt; have := h.le; omega) fun e => by have := (hr k e.symm).1; omega
theorem RdD.setO {w : World} {q B g : Nat} {bs : List Int} (h : RdD w q B bs) (hq : g ≠ q) (hB : B ≤ g) (j : Nat) (v : Value) : RdD (w.setCell ⟨g, j, none⟩ v) q B bs :=
  h.keep (by simp [World.setCell]) (Below.heap_setCell _ _ _ _ (show q ≠ g from fun e => hq e.symm)) fun k hk => Below.heap_setCell _ _ _ _ (show k ≠ g by omega)
theorem OptAt.fr {S : Nat → Prop} {w w' : World} {g : Nat} {o : Opt} {A : Option Addr} {n c : Nat} (h : OptAt w g o A n c) (F : Fr S w w') (hg : ¬ S g) : OptAt w' g o A n c := (F.block _ h.lt hg).trans h
theorem OptAt.gr {w w' : World} {g : Nat} {o : Opt} {A : Option Addr} {n c : Nat} (h : OptAt w g o A n c) {r : Option Nat} (hg : w.grownBy w' r) (hr : some g ≠ r) : OptAt w' g o A n c := (World.grownBy.block hg g h.lt hr).trans h
theorem OwnP.fr {S : Nat → Prop} {w w' : World} {base : Nat} {v : Value} {ps : List (Int × Int)} (h : OwnP w base v ps) (F : Fr S w w') (hS : ∀ k, S k → k < base) : OwnP w' base v ps :=
  h.keep fun k h1 h2 => F.block k h2 fun e => by have := hS k e; omega
abbrev SQ (q g : Nat) : Nat → Prop := fun x => x = q ∨ x = g
theorem fr_grown {w0 w w' : World} {q g base : Nat} (h : Fr (SQ q g) w0 w) (hb : w0.heap.size ≤ base) {r : Option Nat} (hg : w.grownBy w' r) (hr : ∀ k, r = some k → base ≤ k) : Fr (SQ q g) w0 w' :=
  ⟨(World.grownBy.os hg).trans h.os, (World.grownBy.tape hg).trans h.tape, (World.grownBy.output hg).trans h.output, Nat.le_trans h.size (World.grownBy.size hg), fun k hk hn => (World.grownBy.block hg k (by have := h.size; omega) fun e => by have := hr k e.symm; omega).trans (h.block k hk hn)⟩
def ljR (q B g base i : Nat) (x y : Int) (A1 : Option Addr) (c1 : Nat) (b : List Int) (o1 : Opt) (ps : List (Int × Int)) : Nat → (Nat → Value) → World → Prop
  | 0, _, w => RdD w q B b ∧ OptAt w g o1 A1 i c1 ∧ OwnP w base (.slice A1 i c1) ps ∧ base ≤ w.heap.size
  | 1, us, w => us 6 = .int .u32 x ∧ RdD w q B (b.drop 4) ∧ OptAt w g o1 A1 i c1 ∧ OwnP w base (.slice A1 i c1) ps ∧ base ≤ w.heap.size
  | 2, us, w => us 6 = .int .u32 x ∧ us 8 = .int .u32 y ∧ RdD w q B (b.drop 8) ∧ OptAt w g o1 A1 i c1 ∧ OwnP w base (.slice A1 i c1) ps ∧ base ≤ w.heap.size
  | 3, us, w => us 9 = .agg #[.int .u32 x, .int .u32 y] ∧ RdD w q B (b.drop 8) ∧ OptAt w g o1 A1 i c1 ∧ OwnP w base (.slice A1 i c1) ps ∧ base ≤ w.heap.size
  | 4, us, w => (∃ z, us 10 = .slice (some ⟨z, 0, none⟩) 1 1 ∧ w.heap[z]? = some (.cells #[.int .u32 x, .int .u32 y] 43 (0, 0))) ∧ RdD w q B (b.drop 8) ∧ OptAt w g o1 A1 i c1 ∧ OwnP w base (.slice A1 i c1) ps ∧ base ≤ w.heap.size
  | 5, us, w => ∃ A2 c2, us 11 = .slice A2 (i + 1) c2 ∧ RdD w q B (b.drop 8) ∧ OptAt w g o1 A1 i c1 ∧ OwnP w base (.slice A2 (i + 1) c2) (ps ++ [(x, y)])
  | 6, _, w => ∃ A2 c2, RdD w q B (b.drop 8) ∧ OptAt w g { o1 with sk := ps ++ [(x, y)] } A2 (i + 1) c2 ∧ OwnP w base (.slice A2 (i + 1) c2) (ps ++ [(x, y)])
  | _, _, _ => True
theorem ljR.keep (q B g base i : Nat) (x y : Int) (A1 : Option Addr) (c1 : Nat) (b : List Int) (o1 : Opt) (ps : List (Int × Int)) (k : Nat) (us us' : Nat → Value) (w w' : World) (h : ∀ x ∈ [6, 8, 9, 10, 11, 14], us' x = us x) (hb : Below w.heap.size w w') (hR : ljR q B g base i x y A1 c1 b o1 ps k us w) : ljR q B g base i x y A1 c1 b o1 ps k us' w' := by
  have h6 := h 6 (by simp); have h8 := h 8 (by simp); have h9 := h 9 (by simp); have h10 := h 10 (by simp); have h11 := h 11 (by simp)
  have hz := hb.size
  unfold ljR at hR ⊢
  split at hR
  · exact ⟨hR.1.below hb, hR.2.1.bel hb, hR.2.2.1.below hb, Nat.le_trans hR.2.2.2 hz⟩
  · exact ⟨h6.trans hR.1, hR.2.1.below hb, hR.2.2.1.bel hb, hR.2.2.2.1.below hb, Nat.le_trans hR.2.2.2.2 hz⟩
  · exact ⟨h6.trans hR.1, h8.trans hR.2.1, hR.2.2.1.below hb, hR.2.2.2.1.bel hb, hR.2.2.2.2.1.below hb, Nat.le_trans hR.2.2.2.2.2 hz⟩
  · exact ⟨h9.trans hR.1, hR.2.1.below hb, hR.2.2.1.bel hb, hR.2.2.2.1.below hb, Nat.le_trans hR.2.2.2.2 hz⟩
  · obtain ⟨⟨z, a1, a2⟩, a3⟩ := hR
    exact ⟨⟨z, h10.trans a1, by rw [hb.block _ (lt_of_row a2)]; exact a2⟩, a3.1.below hb, a3.2.1.bel hb, a3.2.2.1.below hb, Nat.le_trans a3.2.2.2 hz⟩
  · obtain ⟨A2, c2, a1, a2, a3, a4⟩ := hR
    exact ⟨A2, c2, h11.trans a1, a2.below hb, a3.bel hb, a4.below hb⟩
  · obtain ⟨A2, c2, a2, a3, a4⟩ := hR
    exact ⟨A2, c2, a2.below hb, a3.bel hb, a4.below hb⟩
  · trivial
def ljV (g0 q0 kx : Nat) (A1 : Option Addr) (c1 : Nat) : Nat → Value → World → Prop
  | 0, v, _ => v = .pointer (some ⟨g0, 0, none⟩)
  | 1, v, _ => v = .pointer (some ⟨g0, 0, none⟩)
  | 2, v, _ => v = .pointer (some ⟨g0, 0, none⟩)
  | 3, v, _ => v = .pointer (some ⟨g0, 5, none⟩)
  | 4, v, _ => v = .slice A1 kx c1
  | 5, v, _ => v = .pointer (some ⟨q0, 0, none⟩)
  | 7, v, _ => v = .pointer (some ⟨q0, 0, none⟩)
  | 12, v, _ => v = .pointer (some ⟨g0, 0, none⟩)
  | 13, v, _ => v = .pointer (some ⟨g0, 5, none⟩)
  | _, _, _ => True
theorem ljV.keep (g0 q0 kx : Nat) (A1 : Option Addr) (c1 : Nat) (i : Nat) (v : Value) (w w' : World) (hd : Below w.heap.size w w' ∨ True) (h : ljV g0 q0 kx A1 c1 i v w) : ljV g0 q0 kx A1 c1 i v w' := by
  unfold ljV at h ⊢
  split at h <;> exact h
def ljT : List (Option Nat) := [none, none, none, none, none, none, none, none, none, none, none, none, none, none, none, none, none, none, none, none, none, none, none, none, none, none, none, none, none, none, none, none, none, none, none, none, none, none, none, none, none, none, none, none, none, none, none, none, none, none, none, none, none, none, some 0, some 1, some 2, some 3, some 4, some 5, some 6, some 7, some 8, some 9, some 10, some 11, some 12, some 13, none, none, none, none, none, none, none, none, none, none, none, none, none, none, none, none, none, none, none, none, none, none]
section
variable {w : World} {q g B : Nat} {o : Opt} {A : Option Addr} {n c : Nat} {b : List Int}
set_option maxRecDepth 100000 in
set_option maxHeartbeats 4000000 in
theorem add5 (hS : St w g o A n c) (hR : RdD w q B b) (hgq : g < q) (hBg : B ≤ g) (hne : ∀ k, (Value.slice A n c).ownBlock = some k → k ≠ q) (hy : ∀ x ∈ b, Byte x) (hsk : o.sk = []) (m : Nat) (hl : b.length = 8 * m) (hm0 : 0 < m) (hm : m ≤ 4) : Calls Tryd.prog 46 #[.pointer (some ⟨g, 0, none⟩), .int .u8 5, .pointer (some ⟨q, 0, none⟩)] w (AddR w q g (addO o 5 b)) := by
  obtain ⟨rfl, rfl, rfl⟩ := hS.nil hsk
  have e5 : addO o 5 b = { o with sk := pairsN m b } := by
    show ({ o with sk := o.sk ++ pairsN (b.length / 8) b } : Opt) = _
    rw [hsk, List.nil_append, show b.length / 8 = m by omega]
  rw [e5]
  have HQ := Lib.hid (show q < w.heap.size from hR.lt)
  have HG := Lib.hid hgq
  have HBg := Lib.hid hBg
  have LBB := Lib.hid hl
  have HY := Lib.hid hy
  have HM := Lib.hid hm
  have HM0 := Lib.hid hm0
  have M0 := Lib.hid hS.mac
  have GW := Lib.hid hS.lt
  have RI := Lib.hid (show OptAt w g { o with sk := pairsN 0 b } none 0 0 by rw [show pairsN 0 b = o.sk by rw [hsk]; rfl]; exact hS.row)
  have RD := Lib.hid hR
  clear hS hR hgq hBg hne hy hsk hl hm hm0 e5
  go_enter Tryd.func46, Tryd.ntmps46
  go_upto_region 10 with fail
  go_loopw [] (fun wr => ∃ (i : Nat) (A1 : Option Addr) (c1 : Nat), 8 * i ≤ b.length ∧ RdD wr q B (b.drop (8 * i)) ∧ OptAt wr g { o with sk := pairsN i b } A1 i c1 ∧ OwnP wr w.heap.size (.slice A1 i c1) (pairsN i b) ∧ Fr (SQ q g) w wr) (fun wr => lenOfV ((wr.cell? ⟨q, 0, none⟩).getD undef))
  case atStart => exact ⟨0, none, 0, by omega, RD.out, RI.out, OwnP.nil _ _, Fr.refl _⟩
  case round =>
    obtain ⟨i, A1, c1, hi8, r1, r2, r3, fw⟩ := hrel
    have S1 := Lib.hid r1
    have S2 := Lib.hid r2
    have S3 := Lib.hid r3
    have S4 := Lib.hid (show w.heap.size ≤ wr.heap.size from fw.size)
    have FW := Lib.hid fw
    have GLT := Lib.hid r2.lt
    have HI8 := Lib.hid hi8
    have LF := Lib.hid (left_any r1)
    rw [List.length_drop] at LF
    have hbb := LBB.out
    have hm4 := HM.out
    by_cases hlt : i < m
    · obtain ⟨r, hr⟩ : ∃ r, r = b.length - 8 * i := ⟨_, rfl⟩
      rw [← hr] at LF
      have q1 : (0 : Int) < (r : Int) := by omega
      have q2 : 0 < r := by omega
      obtain ⟨b', hb'⟩ : ∃ b', b' = b.drop (8 * i) := ⟨_, rfl⟩
      have EB := Lib.hid hb'
      have LB := Lib.hid (show 8 ≤ b'.length by rw [hb', List.length_drop]; omega)
      have LB2 := Lib.hid (show b'.length ≤ 32 by rw [hb', List.length_drop]; omega)
      have YB := Lib.hid (show ∀ z ∈ b', Byte z by rw [hb']; exact fun z hz => HY.out z (List.mem_of_mem_drop hz))
      obtain ⟨x, hx⟩ : ∃ x, x = getZ (b'.take 4) := ⟨_, rfl⟩
      obtain ⟨y, hy⟩ : ∃ y, y = getZ ((b'.drop 4).take 4) := ⟨_, rfl⟩
      have EX := Lib.hid hx.symm
      have EY := Lib.hid hy.symm
      have EP := Lib.hid (show pairsN (i + 1) b = pairsN i b ++ [(x, y)] by rw [pairs_snoc, ← hb', hx, hy])
      obtain ⟨ps, hps⟩ : ∃ ps, ps = pairsN i b := ⟨_, rfl⟩
      obtain ⟨o1, ho1⟩ : ∃ o1, o1 = { o with sk := pairsN i b } := ⟨_, rfl⟩
      have EO := Lib.hid (show ({ o1 with sk := pairsN (i + 1) b } : Opt) = { o with sk := pairsN (i + 1) b } by rw [ho1])
      have M1 := Lib.hid (show o1.mac.length = 12 by rw [ho1]; exact M0.out)
      have LP := Lib.hid (show ps.length = i by rw [hps]; exact pairs_len i b)
      have LI := Lib.hid (show i < 100 by omega)
      rw [← hb'] at S1
      rw [← ho1] at S2
      rw [← hps] at S3 EP
      clear hb' hx hy hps ho1 hr hlt hbb hm4 hi8 r1 r2 r3 fw
      go_upto_region 11 with (first
        | (go_at_call 39; refine LF.out.mono ?_; rintro e w2 ⟨rfl, hw⟩; obtain rfl := hw.symm))
      clear q1 q2
      refine with_act fun a0 ha0 => ?_
      have hl : ljT.length = a0.tmps.size := by rw [ha0]; rfl
      have k0 : a0.tmps[0]?.getD undef = .pointer (some ⟨g, 0, none⟩) := by rw [ha0]; rfl
      have k2 : a0.tmps[2]?.getD undef = .pointer (some ⟨q, 0, none⟩) := by rw [ha0]; rfl
      refine wp_region_che (by kernel_rfl) ljT (by kernel_rfl) (by kernel_rfl) hl (fun i => a0.tmps[i + 54]?.getD undef) (by rw [ha0]; rfl) (g) (fun w1 w2 => Fr (SQ q g) w w1 → Fr (SQ q g) w w2) [6, 8, 9, 10, 11, 14] (by kernel_rfl) (by decide) (by decide) (Fr (SQ q g) w) (ljV g q i A1 c1) (ljR q B g w.heap.size i x y A1 c1 b' o1 ps) (Nat.le_of_lt GLT.out) (FW.out.trans (Fr.below (Below.refl _ _).drew)) ⟨S1.out.keep (Nat.le_refl _) rfl fun _ _ => rfl, S2.out, S3.out.keep fun _ _ _ => rfl, S4.out⟩ (fun w1 w2 hb hd h => by rcases hd with hd | hd; exact h.trans (Fr.below hd); exact hd h) (fun i v w w' _ _ h => ljV.keep _ _ _ _ _ i v w w' (.inr trivial) h) (fun k us us' w w' h _ hb hR => ljR.keep _ _ _ _ _ _ _ _ _ _ _ _ k us us' w w' h hb hR) ⟨?_, ?_, ?_, ?_, ?_, ?_, ?_, ?_, ?_, ?_, ?_, ?_, ?_, ?_, ?_, trivial⟩ ?_
      · refine stepE_val [] (by kernel_rfl) (by decide) (by decide) rfl fun us w' hB hG hV => ?_
        have o0 := (frame_old2 (us := us) (a := a0) (show (ljT[0]?).join = none from rfl)).trans k0
        generalize frame ljT a0 us = fr at *
        exact val_C (v := .pointer (some ⟨g, 0, none⟩)) (w' := w') (by go_simp) (Below.refl _ _) rfl
      · refine stepE_val [] (by kernel_rfl) (by decide) (by decide) rfl fun us w' hB hG hV => ?_
        have o0 := (frame_old2 (us := us) (a := a0) (show (ljT[0]?).join = none from rfl)).trans k0
        generalize frame ljT a0 us = fr at *
        exact val_C (v := .pointer (some ⟨g, 0, none⟩)) (w' := w') (by go_simp) (Below.refl _ _) rfl
      · refine stepE_val [1] (by kernel_rfl) (by decide) (by decide) rfl fun us w' hB hG hV => ?_
        have e1 : us 1 = .pointer (some ⟨g, 0, none⟩) := hV 1 (by simp)
        have v1 := (frame_at2 (us := us) hl (show (ljT[55]?).join = some 1 from rfl)).trans e1
        generalize frame ljT a0 us = fr at *
        exact val_C (v := .pointer (some ⟨g, 0, none⟩)) (w' := w') (by go_simp) (Below.refl _ _) rfl
      · refine stepE_val [2] (by kernel_rfl) (by decide) (by decide) rfl fun us w' hB hG hV => ?_
        have e2 : us 2 = .pointer (some ⟨g, 0, none⟩) := hV 2 (by simp)
        have v2 := (frame_at2 (us := us) hl (show (ljT[56]?).join = some 2 from rfl)).trans e2
        generalize frame ljT a0 us = fr at *
        exact val_C (v := .pointer (some ⟨g, 5, none⟩)) (w' := w') (by go_simp) (Below.refl _ _) rfl
      · refine stepE_early 0 4 (.inl rfl) (.inr ⟨_, _, rfl, rfl, by kernel_rfl⟩) [3] (by kernel_rfl) (by decide) (by decide) rfl fun us w' k hB hG hV hk hR => ?_
        have e3 : us 3 = .pointer (some ⟨g, 5, none⟩) := hV 3 (by simp)
        have v3 := (frame_at2 (us := us) hl (show (ljT[57]?).join = some 3 from rfl)).trans e3
        have hrw : OptAt w' g o1 A1 i c1 := by
          obtain ⟨h1, h2⟩ := hk
          match k, h1, h2, hR with
          | 0, _, _, hR => exact hR.2.1
          | 1, _, _, hR => exact hR.2.2.1
          | 2, _, _, hR => exact hR.2.2.2.1
          | 3, _, _, hR => exact hR.2.2.1
          | 4, _, _, hR => exact hR.2.2.1
        have hc := pkC.PkC.cell hrw (optC M1.out A1 i c1).sk
        generalize frame ljT a0 us = fr at *
        exact val_C (v := .slice A1 i c1) (w' := w') (by go_simp) (Below.refl _ _) rfl
      · refine stepE_val [] (by kernel_rfl) (by decide) (by decide) rfl fun us w' hB hG hV => ?_
        have o2 := (frame_old2 (us := us) (a := a0) (show (ljT[2]?).join = none from rfl)).trans k2
        generalize frame ljT a0 us = fr at *
        exact val_C (v := .pointer (some ⟨q, 0, none⟩)) (w' := w') (by go_simp) (Below.refl _ _) rfl
      · refine stepE_chain 0 rfl (by decide) [5] (by kernel_rfl) (by decide) rfl fun us w' hB hG hV hR => ?_
        have e5 : us 5 = .pointer (some ⟨q, 0, none⟩) := hV 5 (by simp)
        have v5 := (frame_at2 (us := us) hl (show (ljT[59]?).join = some 5 from rfl)).trans e5
        generalize frame ljT a0 us = fr at *
        exact call_J (R := fun v w'' => ((Fr (SQ q g) w w' → Fr (SQ q g) w w'') ∧ Below g w' w'') ∧ ljR q B g w.heap.size i x y A1 c1 b' o1 ps 1 (upd us 6 v) w'') (f := 49) (args := #[.pointer (some ⟨q, 0, none⟩)]) (by go_simp) ((number_ok q B b' w' hR.1 (by have := LB.out; omega) (by have := LB2.out; omega) YB.out).mono fun e w'' ⟨h1, h2, h3⟩ => ⟨_, h1, ⟨fun h => h.trans (frq h3), fr_belowO h3 (fun k hk => by have := HG.out; omega) hB⟩, by rw [upd_same]; exact congrArg (Value.int .u32) EX.out, h2, OptAt.fr hR.2.1 h3 (by have := HG.out; omega), OwnP.fr hR.2.2.1 h3 (fun k hk => by have := HQ.out; omega), Nat.le_trans hR.2.2.2 h3.size⟩)
      · refine stepE_val [] (by kernel_rfl) (by decide) (by decide) rfl fun us w' hB hG hV => ?_
        have o2 := (frame_old2 (us := us) (a := a0) (show (ljT[2]?).join = none from rfl)).trans k2
        generalize frame ljT a0 us = fr at *
        exact val_C (v := .pointer (some ⟨q, 0, none⟩)) (w' := w') (by go_simp) (Below.refl _ _) rfl
      · refine stepE_chain 1 rfl (by decide) [7] (by kernel_rfl) (by decide) rfl fun us w' hB hG hV hR => ?_
        have e7 : us 7 = .pointer (some ⟨q, 0, none⟩) := hV 7 (by simp)
        have v7 := (frame_at2 (us := us) hl (show (ljT[61]?).join = some 7 from rfl)).trans e7
        generalize frame ljT a0 us = fr at *
        exact call_J (R := fun v w'' => ((Fr (SQ q g) w w' → Fr (SQ q g) w w'') ∧ Below g w' w'') ∧ ljR q B g w.heap.size i x y A1 c1 b' o1 ps 2 (upd us 8 v) w'') (f := 49) (args := #[.pointer (some ⟨q, 0, none⟩)]) (by go_simp) ((number_ok q B (b'.drop 4) w' hR.2.1 (by have := LB.out; rw [List.length_drop]; omega) (by have := LB2.out; rw [List.length_drop]; omega) (fun z hz => YB.out z (List.mem_of_mem_drop hz))).mono fun e w'' ⟨h1, h2, h3⟩ => ⟨_, h1, ⟨fun h => h.trans (frq h3), fr_belowO h3 (fun k hk => by have := HG.out; omega) hB⟩, by rw [upd_other _ _ (by decide)]; exact hR.1, by rw [upd_same]; exact congrArg (Value.int .u32) EY.out, by rw [List.drop_drop] at h2; exact h2, OptAt.fr hR.2.2.1 h3 (by have := HG.out; omega), OwnP.fr hR.2.2.2.1 h3 (fun k hk => by have := HQ.out; omega), Nat.le_trans hR.2.2.2.2 h3.size⟩)
      · refine stepE_chain 2 rfl (by decide) [] (by kernel_rfl) (by decide) rfl fun us w' hB hG hV hR => ?_
        have v6 := (frame_at2 (us := us) hl (show (ljT[60]?).join = some 6 from rfl)).trans hR.1
        have v8 := (frame_at2 (us := us) hl (show (ljT[62]?).join = some 8 from rfl)).trans hR.2.1
        generalize frame ljT a0 us = fr at *
        exact val_J (R := fun v w'' => ((Fr (SQ q g) w w' → Fr (SQ q g) w w'') ∧ Below g w' w'') ∧ ljR q B g w.heap.size i x y A1 c1 b' o1 ps 3 (upd us 9 v) w'') (v := .agg #[.int .u32 x, .int .u32 y]) (w' := w') (built2_run (T := 43) rfl (eval_tmp v6) (eval_tmp v8) (pair_built x y)) ⟨⟨fun h => h, Below.refl _ _⟩, upd_same _ _ _, hR.2.2⟩
      · refine stepE_chain 3 rfl (by decide) [] (by kernel_rfl) (by decide) rfl fun us w' hB hG hV hR => ?_
        have v9 := (frame_at2 (us := us) hl (show (ljT[63]?).join = some 9 from rfl)).trans hR.1
        generalize frame ljT a0 us = fr at *
        exact val_J (R := fun v w'' => ((Fr (SQ q g) w w' → Fr (SQ q g) w w'') ∧ Below g w' w'') ∧ ljR q B g w.heap.size i x y A1 c1 b' o1 ps 4 (upd us 10 v) w'') (v := .slice (some ⟨w'.heap.size, 0, none⟩) 1 1) (w' := w'.alloc (.cells #[.int .u32 x, .int .u32 y] 43)) (by go_simp) ⟨⟨fun h => h.trans (Fr.alloc _ _), (alloc_below w' _).mono hB⟩, ⟨w'.heap.size, upd_same _ _ _, heap_alloc_new w' _⟩, hR.2.1.below (alloc_below w' _), hR.2.2.1.bel (alloc_below w' _), hR.2.2.2.1.below (alloc_below w' _), Nat.le_trans hR.2.2.2.2 (alloc_below w' _).size⟩
      · refine stepE_chain 4 rfl (by decide) [4] (by kernel_rfl) (by decide) rfl fun us w' hB hG hV hR => ?_
        have e4 : us 4 = .slice A1 i c1 := hV 4 (by simp)
        have v4 := (frame_at2 (us := us) hl (show (ljT[58]?).join = some 4 from rfl)).trans e4
        obtain ⟨⟨z, e10, hz⟩, a1, a2, a3, a4⟩ := (show (∃ z, us 10 = .slice (some ⟨z, 0, none⟩) 1 1 ∧ w'.heap[z]? = some (.cells #[.int .u32 x, .int .u32 y] 43 (0, 0))) ∧ RdD w' q B (b'.drop 8) ∧ OptAt w' g o1 A1 i c1 ∧ OwnP w' w.heap.size (.slice A1 i c1) ps ∧ w.heap.size ≤ w'.heap.size from hR)
        have v10 := (frame_at2 (us := us) hl (show (ljT[64]?).join = some 10 from rfl)).trans e10
        have hbk := a3.blk
        generalize frame ljT a0 us = fr at *
        exact appP_J (R := fun v w'' => ((Fr (SQ q g) w w' → Fr (SQ q g) w w'') ∧ Below g w' w'') ∧ ljR q B g w.heap.size i x y A1 c1 b' o1 ps 5 (upd us 11 v) w'') (.tmp 58) (.tmp 64) rfl w.heap.size _ ps (eval_tmp v4) a3 w'.heap.size _ 1 1 [(x, y)] (eval_tmp v10) (pair_prs hz) (by rw [LP.out]; have := LI.out; omega) a4 (i + 1) (by rw [LP.out]) fun A' c' w'' O' G' => ⟨⟨fun h => fr_grown h (Nat.le_refl _) G' (fun k hk => (hbk k hk).1), (Below.refl g w').grown G' hB (fun k hk => by have := (hbk k hk).1; have := HQ.out; have := HG.out; omega)⟩, A', c', upd_same _ _ _, RdD.keepG a1 G' (fun k hk => by have := (hbk k hk).1; have := HQ.out; have := HG.out; have := HBg.out; omega), OptAt.gr a2 G' (fun e => by have := (hbk g e.symm).1; have := HQ.out; have := HG.out; omega), O'⟩
      · refine stepE_val [0] (by kernel_rfl) (by decide) (by decide) rfl fun us w' hB hG hV => ?_
        have e0 : us 0 = .pointer (some ⟨g, 0, none⟩) := hV 0 (by simp)
        have v0 := (frame_at2 (us := us) hl (show (ljT[54]?).join = some 0 from rfl)).trans e0
        generalize frame ljT a0 us = fr at *
        exact val_C (v := .pointer (some ⟨g, 0, none⟩)) (w' := w') (by go_simp) (Below.refl _ _) rfl
      · refine stepE_val [12] (by kernel_rfl) (by decide) (by decide) rfl fun us w' hB hG hV => ?_
        have e12 : us 12 = .pointer (some ⟨g, 0, none⟩) := hV 12 (by simp)
        have v12 := (frame_at2 (us := us) hl (show (ljT[66]?).join = some 12 from rfl)).trans e12
        generalize frame ljT a0 us = fr at *
        exact val_C (v := .pointer (some ⟨g, 5, none⟩)) (w' := w') (by go_simp) (Below.refl _ _) rfl
      · refine stepE_chain 5 rfl (by decide) [13] (by kernel_rfl) (by decide) rfl fun us w' hB hG hV hR => ?_
        have e13 : us 13 = .pointer (some ⟨g, 5, none⟩) := hV 13 (by simp)
        have v13 := (frame_at2 (us := us) hl (show (ljT[67]?).join = some 13 from rfl)).trans e13
        obtain ⟨A2, c2, e11, a1, a2, a3⟩ := (show ∃ A2 c2, us 11 = .slice A2 (i + 1) c2 ∧ RdD w' q B (b'.drop 8) ∧ OptAt w' g o1 A1 i c1 ∧ OwnP w' w.heap.size (.slice A2 (i + 1) c2) (ps ++ [(x, y)]) from hR)
        have v11 := (frame_at2 (us := us) hl (show (ljT[65]?).join = some 11 from rfl)).trans e11
        have hc := pkC.PkC.cell a2 (optC M1.out A1 i c1).sk
        have hf := a2.frozen 5
        generalize frame ljT a0 us = fr at *
        exact free_skip (w' := w'.setCell ⟨g, 5, none⟩ (.slice A2 (i + 1) c2)) (by go_simp) ⟨undef, rfl, ⟨fun h => fr_set h _, (Below.refl g w').setCell (p := ⟨g, 5, none⟩) (Nat.le_refl _) _⟩, A2, c2, RdD.setO a1 (by have := HG.out; omega) HBg.out 5 _, a2.set_ 5 _ (optV_sk _), a3.keep fun k h1 h2 => Below.heap_setCell _ _ _ _ (by have := HQ.out; have := HG.out; show k ≠ g; omega)⟩
      · intro us w6 hB2 hG hV hR
        obtain ⟨A6, c6, r1, r2, r3⟩ := (show ∃ A2 c2, RdD w6 q B (b'.drop 8) ∧ OptAt w6 g { o1 with sk := ps ++ [(x, y)] } A2 (i + 1) c2 ∧ OwnP w6 w.heap.size (.slice A2 (i + 1) c2) (ps ++ [(x, y)]) from hR)
        have H1 := Lib.hid r1
        have H2 := Lib.hid r2
        have H3 := Lib.hid r3
        have HG6 := Lib.hid hG
        subst ha0
        simp only [frame, ljT, fill]
        clear hV hG hl k0 k2 r1 r2 r3 hR
        go_wp2_with fail
        go_roundw
        case rel =>
          have hbl : b'.length = b.length - 8 * i := by rw [EB.out, List.length_drop]
          refine ⟨i + 1, A6, c6, by have := HI8.out; have := LB.out; omega, ?_, ?_, ?_, HG6.out⟩
          · have h := H1.out
            rw [EB.out, List.drop_drop, show 8 * i + 8 = 8 * (i + 1) by omega] at h
            exact h
          · have h := H2.out
            rw [← EP.out] at h
            rw [EO.out] at h
            exact h
          · rw [EP.out]; exact H3.out
        case measure =>
          obtain ⟨Aa, na, ca, ha, _, _, Na, _⟩ := H1.out
          obtain ⟨Ab, nb, cb, hb, _, _, Nb, _⟩ := S1.out
          have la := Na.len
          have lb := Nb.len
          have l8 := LB.out
          rw [List.length_drop] at la
          rw [ha, hb]
          simp only [Option.getD_some, lenOfV]
          omega
    · have him : i = m := by omega
      subst him
      have er : b.length - 8 * i = 0 := by omega
      rw [er] at LF
      clear hbb hm4 hi8 r1 r2 r3 fw er hlt
      go_wp2_with (first
        | (go_at_call 39; refine LF.out.mono ?_; rintro e w2 ⟨rfl, hw⟩; obtain rfl := hw.symm))
      go_end0
      refine ⟨rfl, FW.out, A1, i, c1, S2.out, M0.out, pairs_len i b, S3.out.less (by have := GW.out; omega), fun h => ?_⟩
      have h1 := pairs_len i b
      have h2 := HM0.out
      rw [show pairsN i b = [] from h] at h1
      simp at h1
      omega
end
end Go.Proofs.YtapcjgmijcpfiaaDoor.opC

/-
  An option is added, and options are read: the program's.
-/
namespace Go.Proofs.YtapcjgmijcpfiaaDoor.opC
open Go.ChangeShapes Go.WideShapes Go.ChangeAt Go.RowKit
open Go.Proofs.YtapcjgmijcpfiaaDoor.memC Go.Proofs.YtapcjgmijcpfiaaDoor.genC Go.Proofs.YtapcjgmijcpfiaaDoor.butC Go.Proofs.YtapcjgmijcpfiaaDoor.freeC Go.Proofs.YtapcjgmijcpfiaaDoor.adC
open Go.Proofs.YtapcjgmijcpfiaaDoor.octC (Fr Rd RdD stopped getZ)
set_option linter.unusedVariables false
theorem add_any {w : World} {q g B : Nat} {o : Opt} {A : Option Addr} {n c : Nat} {b : List Int} (k : Int) (hS : St w g o A n c) (hR : RdD w q B b) (hgq : g < q) (hBg : B ≤ g) (hne : ∀ k, (Value.slice A n c).ownBlock = some k → k ≠ q) (hy : ∀ x ∈ b, Byte x)
    (hw : wantN k b.length = 2 + b.length) (h38 : b.length ≤ 38) (hh : hasB o k = false) : Calls Tryd.prog 46 #[.pointer (some ⟨g, 0, none⟩), .int .u8 k, .pointer (some ⟨q, 0, none⟩)] w (AddR w q g (addO o k b)) := by
  unfold wantN sizeK at hw
  by_cases h2 : k = 2
  · subst h2; rw [if_pos rfl] at hw; exact add2 hS hR hgq hBg hne hy (by omega)
  rw [if_neg h2] at hw
  by_cases h3 : k = 3
  · subst h3; rw [if_pos rfl] at hw; exact add3 hS hR hgq hBg hne hy (by omega)
  rw [if_neg h3] at hw
  by_cases h4 : k = 4
  · subst h4; exact add4 hS hR hgq hBg hne hy
  rw [if_neg h4] at hw
  by_cases h8 : k = 8
  · subst h8; rw [if_pos rfl] at hw; exact add8 hS hR hgq hBg hne hy (by omega)
  rw [if_neg h8] at hw
  by_cases h5 : k = 5
  · subst h5
    rw [if_pos rfl] at hw
    have hs0 : o.sk = [] := by
      have : ¬ 0 < o.sk.length := by simpa [hasB] using hh
      exact List.eq_nil_of_length_eq_zero (by omega)
    exact add5 hS hR hgq hBg hne hy hs0 (max (b.length / 8) 1) (by omega) (by omega) (by omega)
  rw [if_neg h5] at hw
  by_cases h29 : k = 29
  · subst h29; rw [if_pos rfl] at hw; exact add29 hS hR hgq hBg hne hy (by omega)
  rw [if_neg h29] at hw
  omega
def TakeR (w : World) (q g : Nat) (o : Opt) (k : Int) (b : List Int) (e : Ending) (w' : World) : Prop :=
  e = .returned (.int .i64 (takeE o k b)) ∧ Fr (SQ q g) w w' ∧ (takeE o k b = 0 → ∃ A n c, St w' g (takeO o k b) A n c)
set_option maxRecDepth 100000 in
set_option maxHeartbeats 800000 in
theorem take_any (k : Int) {w : World} {q g B : Nat} {o : Opt} {A : Option Addr} {n c : Nat} {b : List Int} (hS : St w g o A n c) (hR : RdD w q B b) (hgq : g < q) (hBg : B ≤ g) (hne : ∀ k, (Value.slice A n c).ownBlock = some k → k ≠ q) (hy : ∀ x ∈ b, Byte x) (h38 : b.length ≤ 38) (hk : Byte k) :
    Calls Tryd.prog 41 #[.pointer (some ⟨g, 0, none⟩), .int .u8 k, .pointer (some ⟨q, 0, none⟩)] w (TakeR w q g o k b) := by
  have LF := Lib.hid (left_any hR)
  have SZ := Lib.hid (fun (z : Int) (h : ((max (b.length / 8) 1 : Nat) : Int) = z) => size_any k (max (b.length / 8) 1) z w h (by omega))
  have HGQ := Lib.hid hgq; have HBG := Lib.hid hBg; have HNE := Lib.hid hne; have HY := Lib.hid hy; have H38 := Lib.hid h38; have HRD := Lib.hid hR
  have HAS := Lib.hid (has_any o A n c k w hS.mac hS.len)
  have HS := Lib.hid hS
  have RW := Lib.hid (show w.heap[g]? = some (.cells (optV o A n c) 27 (0, 0)) from hS.row)
  have IC := Lib.hid (optC hS.mac A n c).info
  have hlq : g < w.heap.size := hS.lt
  have EV := Lib.hid (show takeE o k b = if wantN k b.length = 0 then 0 else if wantN k b.length ≠ 2 + b.length then 3 else if hasB o k = true then 7 else 0 from rfl)
  have EO := Lib.hid (show takeO o k b = if wantN k b.length = 0 then o else addO o k b from rfl)
  obtain ⟨W0, hW0⟩ : ∃ W0, W0 = wantN k b.length := ⟨_, rfl⟩
  have EW := Lib.hid (show sizeK k (max (b.length / 8) 1) = W0 from hW0.symm)
  rw [← hW0] at EV EO
  rw [EW.out] at SZ
  have W50 := Lib.hid (show W0 ≤ 100 by rw [hW0]; unfold wantN sizeK; repeat (first | omega | split))
  clear hS hR hgq hBg hne hy hW0 hk
  obtain ⟨L, hL⟩ : ∃ L, L = b.length := ⟨_, rfl⟩
  rw [← hL] at LF SZ EV h38
  have HL := Lib.hid hL
  clear hL
  have htd : (L : Int).tdiv 8 = ((L / 8 : Nat) : Int) := by rw [Int.tdiv_eq_ediv_of_nonneg (by omega)]; omega
  unfold TakeR
  generalize optV o A n c = C at *
  obtain ⟨D, hD⟩ : ∃ D, D = L / 8 := ⟨_, rfl⟩
  rw [← hD] at htd SZ
  have w2l : IntKind.i64.wrap (2 + (L : Int)) = 2 + (L : Int) := IntWalk.i64_in _ (by omega)
  go_enter Tryd.func41, Tryd.ntmps41
  go_upto_region 1 with fail
  go_cut [7] from 8 (fun v wc => v = .int .i64 (W0 : Int) ∧ wc = w)
  case first =>
    rcases (show D = 0 ∨ D = 1 ∨ 2 ≤ D by omega) with h0 | h0 | h0
    · subst h0
      have S1 := Lib.hid (SZ.out 1 rfl)
      clear SZ hD
      go_wp2_with (first
        | (go_at_call 39; refine LF.out.mono ?_; rintro e w2 ⟨rfl, hw⟩; obtain rfl := hw.symm)
        | (go_at_call 24; refine S1.out.mono ?_; rintro e w2 ⟨rfl, hw⟩; obtain rfl := hw.symm))
      go_meet
      exact ⟨rfl, rfl⟩
    · subst h0
      have S1 := Lib.hid (SZ.out 1 rfl)
      clear SZ hD
      go_wp2_with (first
        | (go_at_call 39; refine LF.out.mono ?_; rintro e w2 ⟨rfl, hw⟩; obtain rfl := hw.symm)
        | (go_at_call 24; refine S1.out.mono ?_; rintro e w2 ⟨rfl, hw⟩; obtain rfl := hw.symm))
      go_meet
      exact ⟨rfl, rfl⟩
    · have S1 := Lib.hid (SZ.out (D : Int) (by omega))
      have p1 : (1 : Int) ≤ (D : Int) := by omega
      have p2 : ¬ (D : Int) ≤ 1 := by omega
      have p3 : (1 : Int) < (D : Int) := by omega
      have p4 : ¬ (D : Int) < 1 := by omega
      have p5 : IntKind.i64.wrap (D : Int) = (D : Int) := IntWalk.i64_in _ (by omega)
      clear SZ hD
      go_wp2_with (first
        | (go_at_call 39; refine LF.out.mono ?_; rintro e w2 ⟨rfl, hw⟩; obtain rfl := hw.symm)
        | (go_at_call 24; refine S1.out.mono ?_; rintro e w2 ⟨rfl, hw⟩; obtain rfl := hw.symm))
      go_meet
      exact ⟨rfl, rfl⟩
  case rest =>
  obtain ⟨rfl, hwc⟩ := hcut
  subst hwc
  clear SZ htd hD
  by_cases hz : W0 = 0
  · subst hz
    rw [if_pos rfl] at EV EO
    go_wp2_with fail
    go_ret
    exact ⟨octC.ret_int EV.out.symm, Fr.refl _, fun _ => ⟨A, n, c, by rw [EO.out]; exact HS.out⟩⟩
  have z1 : ((W0 : Int) == 0) = false := beq_eq_false_iff_ne.2 (by omega)
  rw [if_neg hz] at EV EO
  by_cases hn2 : W0 ≠ 2 + L
  · have z2 : ((W0 : Int) != 2 + (L : Int)) = true := by simp; omega
    have z3 : ((W0 : Int) == 2 + (L : Int)) = false := beq_eq_false_iff_ne.2 (by omega)
    rw [if_pos hn2] at EV
    clear hz
    go_wp2_with (first
        | (go_at_call 39; refine LF.out.mono ?_; rintro e w2 ⟨rfl, hw⟩; obtain rfl := hw.symm))
    go_ret
    exact ⟨octC.ret_int EV.out.symm, Fr.refl _, fun h => by rw [EV.out] at h; cases h⟩
  have z2 : W0 = 2 + L := by omega
  have z3 : ((W0 : Int) != 2 + (L : Int)) = false := by simp; omega
  rw [if_neg hn2] at EV
  obtain ⟨hb, hhb⟩ : ∃ hb, hasB o k = hb := ⟨_, rfl⟩
  rw [hhb] at EV HAS
  have HHB0 := Lib.hid hhb
  have HW2 := Lib.hid (show wantN k b.length = 2 + b.length by
    have e := EW.out
    have e2 := HL.out
    unfold wantN
    rw [e, ← e2]; exact z2)
  clear hn2 hz hhb z2
  have IC2 := IC
  cases hb
  · have HHB := Lib.hid HHB0.out
    go_upto_region 8 with (first
        | (go_at_call 39; refine LF.out.mono ?_; rintro e w2 ⟨rfl, hw⟩; obtain rfl := hw.symm)
        | (refine wpList_load_row rfl 27 (.tmp 25) rfl g rfl _ _ _ _ RW.out Tryd.underlying27 rfl IC.out ?_)
        | (go_at_call 23; refine HAS.out.mono ?_; rintro e w3 ⟨rfl, B3⟩
           have HB3 := Lib.hid B3
           have S3 := Lib.hid (HS.out.bel B3)
           have R3 := Lib.hid (HRD.out.below B3)
           clear B3))
    have AD3 := Lib.hid (add_any k S3.out R3.out HGQ.out HBG.out HNE.out HY.out HW2.out H38.out HHB.out)
    go_wp2_with (first
        | (go_at_call 46; refine AD3.out.mono ?_; rintro e w4 ⟨rfl, F4, A4, n4, c4, S4⟩
           have HF4 := Lib.hid ((Fr.below HB3.out).trans F4)
           have HS4 := Lib.hid S4
           clear F4 S4))
    go_ret
    exact ⟨octC.ret_int EV.out.symm, HF4.out, fun _ => ⟨A4, n4, c4, by rw [EO.out]; exact HS4.out⟩⟩
  · go_wp2_with (first
        | (go_at_call 39; refine LF.out.mono ?_; rintro e w2 ⟨rfl, hw⟩; obtain rfl := hw.symm)
        | (refine wpList_load_row rfl 27 (.tmp 25) rfl g rfl _ _ _ _ RW.out Tryd.underlying27 rfl IC.out ?_)
        | (go_at_call 23; refine HAS.out.mono ?_; rintro e w3 ⟨rfl, B3⟩
           have HB3 := Lib.hid B3
           clear B3))
    go_ret
    exact ⟨octC.ret_int EV.out.symm, Fr.below HB3.out, fun h => by rw [EV.out] at h; cases h⟩
end Go.Proofs.YtapcjgmijcpfiaaDoor.opC

/-
  Options with as many pairs as fit: the program's, and the document's.
-/
namespace Go.Proofs.YtapcjgmijcpfiaaDoor.opC
open Go.ChangeShapes Go.WideShapes Go.ChangeAt Go.RowKit
open Go.Proofs.YtapcjgmijcpfiaaDoor.memC Go.Proofs.YtapcjgmijcpfiaaDoor.genC Go.Proofs.YtapcjgmijcpfiaaDoor.butC Go.Proofs.YtapcjgmijcpfiaaDoor.freeC Go.Proofs.YtapcjgmijcpfiaaDoor.adC
set_option linter.unusedVariables false
set_option maxRecDepth 100000 in
set_option maxHeartbeats 4000000 in
theorem cfit_any (o : Opt) (A : Option Addr) (n c : Nat) (w : World) (hk : Kd w) (ho : o.Ok) (hn : o.sk.length = n) (hs : Prs w w.heap.size A n o.sk) (hc : n ≤ c) (hm : n ≤ 100000) (hcm : c ≤ 9223372036854775807) :
    Calls Tryd.prog 20 #[.agg (optV o A n c)] w (FitRet w o) := by
  have hzv := zeroOpt
  obtain ⟨W, hW⟩ : ∃ W, W = (w.alloc (.cells (optV o A n c) 27)).alloc (.cells (optV zOpt none 0 0) 27) := ⟨_, rfl⟩
  have e1 : (w.alloc (.cells (optV o A n c) 27)).heap.size = w.heap.size + 1 := alloc_size _ _
  have R0 : OptAt W w.heap.size o A n c := by unfold OptAt; rw [hW, Below.block (alloc_below _ _) _ (by rw [e1]; omega)]; exact heap_alloc_new w _
  have Z0 : OptAt W (w.heap.size + 1) zOpt none 0 0 := by unfold OptAt; rw [hW, ← e1]; exact heap_alloc_new _ _
  have B0 : Below w.heap.size w W := by rw [hW]; exact ((Below.refl _ _).alloc (Nat.le_refl _) _).alloc (by simp) _
  have k5 := pkC.PkC.cell R0 (optC ho.lm A n c).sk
  have f5 := R0.frozen 5
  obtain ⟨m, hmm⟩ : ∃ m, m = min n 4 := ⟨_, rfl⟩
  have hm4 : m ≤ 4 := by omega
  have hmn : m ≤ n := by omega
  have hmi : min (n : Int) 4 = (m : Int) := by omega
  have F0 := Lib.hid (show fitA o m = fitN o by unfold fitN; rw [hn, ← hmm])
  have HP := Lib.hid (fun (w' : World) (h : Below w.heap.size w w') (k : Nat) (hk : k ≤ n) => ((hs.below h).more h.size).upto hk)
  have MK := Lib.hid ho.lm
  have HC := Lib.hid hc
  have HM := Lib.hid hm
  have OK := Lib.hid ho
  have HN := Lib.hid hn
  have M4 := Lib.hid hm4
  have MN := Lib.hid hmn
  have SZO := Lib.hid (show (optV zOpt none 0 0).size = 24 from (optC zOpt_ok.lm none 0 0).size)
  have hmc : (m : Int) ≤ (c : Int) := by omega
  have hm0 : (0 : Int) ≤ (m : Int) := by omega
  have R1 := Lib.hid (R0.set_ (o' := { o with sk := o.sk.take m }) (A' := A) (n' := m) (c' := c) 5 (.slice A m c) (optV_sk _))
  have Z1 := Lib.hid (Z0.other (a := ⟨w.heap.size, 5, none⟩) (by show w.heap.size ≠ w.heap.size + 1; omega) (.slice A m c))
  have B1 := Lib.hid (B0.setCell (p := ⟨w.heap.size, 5, none⟩) (Nat.le_refl _) (.slice A m c))
  have SZ := Lib.hid (fun (k : Nat) (w' : World) (h : Below w.heap.size w w') (hk' : k ≤ n) => csize_any { o with sk := o.sk.take k } A k c w' (hk.below h hk.lt) ho.lm (by simp only [List.length_take]; omega) (by omega))
  have CLT := Lib.hid (fun (k : Nat) (hk' : k ≤ n) (w' : World) (h : Below w.heap.size w w') => pclone_any A k c (o.sk.take k) w' (HP.out w' h k hk') (by omega))
  have LK := Lib.hid (fun (k : Nat) (hk' : k ≤ n) => (show (o.sk.take k).length = k by rw [List.length_take]; omega))
  have HMM := Lib.hid hmm
  clear R0 Z0 B0 hk ho hn hs e1 hmm hm4 hmn hmi
  go_enter Tryd.func20, Tryd.ntmps20
  go_upto_region 1 with fail
  rw [← hW]
  clear hW hzv
  go_cut [] from 3 (fun wc => OptAt wc w.heap.size { o with sk := o.sk.take m } A m c ∧ OptAt wc (w.heap.size + 1) zOpt none 0 0 ∧ Below w.heap.size w wc)
  case first =>
    by_cases h4 : n ≤ 4
    · obtain rfl : m = n := by have := HMM.out; omega
      have h5 : (m : Int) ≤ 4 := by omega
      go_wp2_with fail
      go_meet
      exact ⟨R1.out, Z1.out, B1.out⟩
    · obtain rfl : m = 4 := by have := HMM.out; omega
      have h5 : ¬ (n : Int) ≤ 4 := by omega
      have h6 : (4 : Int) ≤ (c : Int) := by omega
      go_wp2_with fail
      go_meet
      exact ⟨R1.out, Z1.out, B1.out⟩
  case rest =>
  obtain ⟨r1, z1, b1⟩ := hcut
  clear R1 Z1 B1
  have R1 := Lib.hid r1; have Z1 := Lib.hid z1; have B1 := Lib.hid b1
  generalize wc = W1 at *
  clear k5 f5 hmc hm0 r1 z1 b1
  go_upto_region 2 with fail
  go_loopw [] (fun wr => ∃ k : Nat, k ≤ m ∧ fitA o k = fitN o ∧ OptAt wr w.heap.size { o with sk := o.sk.take k } A k c ∧ OptAt wr (w.heap.size + 1) zOpt none 0 0 ∧ Below w.heap.size w wr) (fun wr => lenOfV ((wr.cell? ⟨w.heap.size, 5, none⟩).getD undef))
  case atStart => exact ⟨m, Nat.le_refl _, F0.out, R1.out, Z1.out, B1.out⟩
  case round =>
    obtain ⟨k, hkm, hF, Rk, Zk, Bk⟩ := hrel
    have hk4 : k ≤ 4 := Nat.le_trans hkm M4.out
    have hkn : k ≤ n := Nat.le_trans hkm MN.out
    have k5 := pkC.PkC.cell Rk (optC (o := { o with sk := o.sk.take k }) MK.out A k c).sk
    have f5 := Rk.frozen 5
    have IC := Lib.hid (optC (o := { o with sk := o.sk.take k }) MK.out A k c).info
    have RK := Lib.hid Rk; have ZK := Lib.hid Zk; have BK := Lib.hid Bk
    have HK := Lib.hid hkm
    have CLN := Lib.hid (CLT.out k hkn)
    unfold PrRet at CLN
    rw [LK.out k hkn] at CLN
    clear CLT
    have SK := Lib.hid (SZ.out k wr Bk hkn)
    by_cases h0 : k = 0
    · have hkf : k = fitN o := by rw [← hF, h0]; rfl
      have z0 : ¬ (0 : Int) < (k : Int) := by omega
      have z1 : decide ((0 : Int) < (k : Int)) = false := decide_eq_false z0
      have z8 : ¬ 0 < k := by omega
      have z9 : decide (0 < k) = false := decide_eq_false z8
      clear h0 hF hkm hk4 hkn Rk Zk Bk SZ SK
      subst hkf
      go_upto_region 5 with (first
        | (go_at_call 31; (refine (CLN.out wr BK.out).mono ?_); rintro e w3 ⟨A3, c3, rfl, g3, O3, B3⟩
           have HO3 := Lib.hid O3
           have HG3 := Lib.hid g3
           have HB3 := Lib.hid (BK.out.trans (B3.mono (Below.size BK.out)))
           have R3 := Lib.hid (OptAt.bel RK.out B3)
           have Z3 := Lib.hid (OptAt.bel ZK.out B3)
           have c53 := pkC.PkC.cell R3.out (optC (o := { o with sk := o.sk.take (fitN o) }) MK.out A (fitN o) c).sk
           have f53 := R3.out.frozen 5
           clear O3 B3 g3))
      have hzl := OptAt.lt ZK.out
      have R4 := Lib.hid (R3.out.set_ (o' := fitO o) (A' := A3) (n' := fitN o) (c' := c3) 5 (.slice A3 (fitN o) c3) (optV_sk _))
      have Z4 := Lib.hid (Z3.out.other (a := ⟨w.heap.size, 5, none⟩) (by show w.heap.size ≠ w.heap.size + 1; omega) (.slice A3 (fitN o) c3))
      have B4 := Lib.hid (HB3.out.setCell (p := ⟨w.heap.size, 5, none⟩) (Nat.le_refl _) (.slice A3 (fitN o) c3))
      have O4 := Lib.hid (HO3.out.keep (w' := w3.setCell ⟨w.heap.size, 5, none⟩ (.slice A3 (fitN o) c3)) fun k h1 h2 => Below.heap_setCell _ _ _ _ (by show k ≠ w.heap.size; omega))
      have I4 := Lib.hid (optC (o := fitO o) MK.out A3 (fitN o) c3).info
      have S4 := Lib.hid (show (optV zOpt none 0 0).size = (optV (fitO o) A3 (fitN o) c3).size by rw [SZO.out, (optC (o := fitO o) MK.out A3 (fitN o) c3).size])
      have P4 := Lib.hid (opt_one (fitO o) A3 (fitN o) c3)
      clear c53 f53
      unfold OptAt at R4 Z4
      generalize hC4 : optV (fitO o) A3 (fitN o) c3 = C4 at *
      have EC4 := Lib.hid hC4
      clear hC4
      go_wp2_with (first
        | (refine wpList_load_row rfl 27 (.tmp 1) rfl w.heap.size rfl _ _ _ _ R4.out Tryd.underlying27 rfl I4.out ?_)
        | (refine wpList_store_row rfl 27 (.tmp 2) (.tmp 32) rfl (w.heap.size + 1) C4 rfl rfl _ _ Z4.out I4.out S4.out P4.out ?_))
      refine bodyPost_ret (v := .agg C4) (Go.results_cell_row Tryd.results20 _ _ (w.heap.size + 1) _ _ _ _ (by rfl) (setRow_heap _ _ _ _ _ _ Z4.out) Tryd.underlying27 rfl I4.out) rfl ?_
      exact ⟨A3, c3, by rw [EC4.out], HG3.out, (O4.out.keep fun k h1 h2 => setRow_other _ _ _ _ (by omega)).prs, setR_below B4.out (by omega) _⟩
    have z0 : (0 : Int) < (k : Int) := by omega
    have z8 : 0 < k := by omega
    have z9 : decide (0 < k) = true := decide_eq_true z8
    by_cases hsz : sizeN { o with sk := o.sk.take k } ≤ 40
    · have hkf : k = fitN o := by
        rw [← hF]
        obtain ⟨j, rfl⟩ : ∃ j, k = j + 1 := ⟨k - 1, by omega⟩
        unfold fitA
        rw [if_pos hsz]
      obtain ⟨z, hz⟩ : ∃ z, z = sizeN { o with sk := o.sk.take k } := ⟨_, rfl⟩
      rw [← hz] at SK hsz
      have z2 : ¬ (40 : Int) < (z : Int) := by omega
      have z3 : decide ((40 : Int) < (z : Int)) = false := decide_eq_false z2
      clear h0 hF hkm hk4 hkn Rk Zk Bk SZ hsz hz
      subst hkf
      go_upto_region 5 with (first
        | (refine wpList_load_rowG (by kernel_rfl) 27 (.tmp 1) rfl w.heap.size (by kernel_rfl) _ _ _ _ RK.out Tryd.underlying27 rfl IC.out ?_)
        | (go_at_call 12; (refine SK.out.mono ?_); rintro e w2 ⟨rfl, B2⟩
           have R2 := Lib.hid (OptAt.bel RK.out B2)
           have Z2 := Lib.hid (OptAt.bel ZK.out B2)
           have BK2 := Lib.hid (BK.out.trans (B2.mono (Below.size BK.out)))
           have c5 := pkC.PkC.cell R2.out (optC (o := { o with sk := o.sk.take (fitN o) }) MK.out A (fitN o) c).sk
           clear B2)
        | (go_at_call 31; (refine (CLN.out w2 BK2.out).mono ?_); rintro e w3 ⟨A3, c3, rfl, g3, O3, B3⟩
           have HO3 := Lib.hid O3
           have HG3 := Lib.hid g3
           have HB3 := Lib.hid (BK2.out.trans (B3.mono (Below.size BK2.out)))
           have R3 := Lib.hid (OptAt.bel R2.out B3)
           have Z3 := Lib.hid (OptAt.bel Z2.out B3)
           have c53 := pkC.PkC.cell R3.out (optC (o := { o with sk := o.sk.take (fitN o) }) MK.out A (fitN o) c).sk
           have f53 := R3.out.frozen 5
           clear O3 B3 g3))
      have hzl := OptAt.lt Z2.out
      have R4 := Lib.hid (R3.out.set_ (o' := fitO o) (A' := A3) (n' := fitN o) (c' := c3) 5 (.slice A3 (fitN o) c3) (optV_sk _))
      have Z4 := Lib.hid (Z3.out.other (a := ⟨w.heap.size, 5, none⟩) (by show w.heap.size ≠ w.heap.size + 1; omega) (.slice A3 (fitN o) c3))
      have B4 := Lib.hid (HB3.out.setCell (p := ⟨w.heap.size, 5, none⟩) (Nat.le_refl _) (.slice A3 (fitN o) c3))
      have O4 := Lib.hid (HO3.out.keep (w' := w3.setCell ⟨w.heap.size, 5, none⟩ (.slice A3 (fitN o) c3)) fun k h1 h2 => Below.heap_setCell _ _ _ _ (by show k ≠ w.heap.size; omega))
      have I4 := Lib.hid (optC (o := fitO o) MK.out A3 (fitN o) c3).info
      have S4 := Lib.hid (show (optV zOpt none 0 0).size = (optV (fitO o) A3 (fitN o) c3).size by rw [SZO.out, (optC (o := fitO o) MK.out A3 (fitN o) c3).size])
      have P4 := Lib.hid (opt_one (fitO o) A3 (fitN o) c3)
      clear c53 f53
      unfold OptAt at R4 Z4
      generalize hC4 : optV (fitO o) A3 (fitN o) c3 = C4 at *
      have EC4 := Lib.hid hC4
      clear hC4
      go_wp2_with (first
        | (refine wpList_load_row rfl 27 (.tmp 1) rfl w.heap.size rfl _ _ _ _ R4.out Tryd.underlying27 rfl I4.out ?_)
        | (refine wpList_store_row rfl 27 (.tmp 2) (.tmp 32) rfl (w.heap.size + 1) C4 rfl rfl _ _ Z4.out I4.out S4.out P4.out ?_))
      refine bodyPost_ret (v := .agg C4) (Go.results_cell_row Tryd.results20 _ _ (w.heap.size + 1) _ _ _ _ (by rfl) (setRow_heap _ _ _ _ _ _ Z4.out) Tryd.underlying27 rfl I4.out) rfl ?_
      exact ⟨A3, c3, by rw [EC4.out], HG3.out, (O4.out.keep fun k h1 h2 => setRow_other _ _ _ _ (by omega)).prs, setR_below B4.out (by omega) _⟩
    · obtain ⟨j, rfl⟩ : ∃ j, k = j + 1 := ⟨k - 1, by omega⟩
      have hF2 := Lib.hid (show fitA o j = fitN o by rw [← hF]; rw [show fitA o (j + 1) = if sizeN { o with sk := o.sk.take (j + 1) } ≤ 40 then j + 1 else fitA o j from rfl, if_neg hsz])
      obtain ⟨z, hz⟩ : ∃ z, z = sizeN { o with sk := o.sk.take (j + 1) } := ⟨_, rfl⟩
      rw [← hz] at SK hsz
      have z2 : (40 : Int) < (z : Int) := by omega
      have z4 : ((j + 1 : Nat) : Int) - 1 = (j : Int) := by omega
      have z5 : IntKind.i64.wrap (((j + 1 : Nat) : Int) - 1) = (j : Int) := by rw [z4]; exact IntWalk.i64_in _ (by omega)
      have z6 : (j : Int) ≤ (c : Int) := by have := HC.out; omega
      have z7 : (0 : Int) ≤ (j : Int) := by omega
      obtain ⟨kk, hkk⟩ : ∃ kk, kk = j + 1 := ⟨_, rfl⟩
      have HKK := Lib.hid hkk
      clear h0 hF hkm hk4 hkn Rk Zk Bk SZ hsz hz CLN
      go_upto_region 3 with (first
        | (refine wpList_load_rowG (by kernel_rfl) 27 (.tmp 1) rfl w.heap.size (by kernel_rfl) _ _ _ _ RK.out Tryd.underlying27 rfl IC.out ?_)
        | (go_at_call 12; (refine SK.out.mono ?_); rintro e w2 ⟨rfl, B2⟩
           have R2 := Lib.hid (OptAt.bel RK.out B2)
           have Z2 := Lib.hid (OptAt.bel ZK.out B2)
           have BK2 := Lib.hid (BK.out.trans (B2.mono (Below.size BK.out)))
           have c5 := pkC.PkC.cell R2.out (optC (o := { o with sk := o.sk.take (j + 1) }) MK.out A (j + 1) c).sk
           have f52 := R2.out.frozen 5
           clear B2))
      clear k5 f5
      go_wp2_with fail
      go_roundw
      case rel =>
        have hk2 := HKK.out
        refine ⟨j, by have := HK.out; omega, hF2.out, ?_, Z2.out.other (by show w.heap.size ≠ w.heap.size + 1; omega) _, BK2.out.setCell (p := ⟨w.heap.size, 5, none⟩) (Nat.le_refl _) _⟩
        exact R2.out.set_ (o' := { o with sk := o.sk.take j }) 5 _ (optV_sk _)
      case measure =>
        have e1 : (w2.setCell ⟨w.heap.size, 5, none⟩ (.slice A j c)).cell? ⟨w.heap.size, 5, none⟩ = some (.slice A j c) := by go_simp
        have e2 := pkC.PkC.cell RK.out (optC (o := { o with sk := o.sk.take (j + 1) }) MK.out A (j + 1) c).sk
        rw [e1, e2]
        simp [lenOfV]
end Go.Proofs.YtapcjgmijcpfiaaDoor.opC
