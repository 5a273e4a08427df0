/-
  2 texts of a proof, joined.
-/
import Derived.Test.YtcnnpfjommiafaaMg24

/-
  Whether all pieces are there; the packet that they make.
-/
namespace Go.Proofs.Ytcnnpfjommiafaa.fgC
open Go.ChangeShapes Go.WideShapes Go.ChangeAt Go.RowKit
open Go.Proofs.Ytcnnpfjommiafaa.memC Go.Proofs.Ytcnnpfjommiafaa.genC Go.Proofs.Ytcnnpfjommiafaa.butC Go.Proofs.Ytcnnpfjommiafaa.freeC Go.Proofs.Ytcnnpfjommiafaa.adC
open Go.Proofs.Ytcnnpfjommiafaa.pkC (Pkt pktL pktV pktT adrC)
open Go.Proofs.Ytcnnpfjommiafaa.partsC (Part nsum nsum_append nsum_snoc nsum_take catL catL_snoc)
set_option linter.unusedVariables false
/-! ### over numbers: each piece begins where the one before it ends -/
def nxtP : Int → List Pc → Int
  | a, [] => a
  | _, e :: r => nxtP (endP e) r
def contP : Int → List Pc → Bool
  | _, [] => true
  | a, e :: r => decide (e.1.off = a) && contP (endP e) r
theorem nxt_snoc (e : Pc) : ∀ (a : Int) (l : List Pc), nxtP a (l ++ [e]) = endP e
  | a, [] => rfl
  | a, x :: r => nxt_snoc e (endP x) r
theorem cont_snoc (e : Pc) : ∀ (a : Int) (l : List Pc), contP a (l ++ [e]) = (contP a l && decide (e.1.off = nxtP a l))
  | a, [] => by show (decide (e.1.off = a) && true) = (true && decide (e.1.off = a)); rw [Bool.and_true, Bool.true_and]
  | a, x :: r => by rw [List.cons_append, contP, contP, nxtP, cont_snoc e (endP x) r, Bool.and_assoc]
theorem cont_take (l : List Pc) : ∀ (k : Nat) (a : Int), contP a l = true → contP a (l.take k) = true := by
  induction l with
  | nil => intro k a _; simp [contP]
  | cons x r ih =>
    intro k a h
    cases k with
    | zero => rfl
    | succ k =>
      rw [List.take_succ_cons, contP]
      rw [contP] at h
      simp only [Bool.and_eq_true] at h ⊢
      exact ⟨h.1, ih k _ h.2⟩
def allP (l : List Pc) : Bool := contP 0 l && match l.getLast? with | some e => !e.1.more | none => false
theorem pc_off (e : Pe) : e.pc.1.off = e.p.off := rfl
theorem end_pc {e : Pe} (h : Kx e) : endP e.pc = e.p.off + (e.n : Int) := by unfold endP Pe.pc; simp only [h.l]
theorem zP_size {e : Pe} (h : e.p.Ok) : (pktV zPkt none 0 0).size = e.cells.toArray.size := by rw [show e.cells.toArray.size = e.cells.length from rfl, Pe.cells_len h]; rfl
theorem pe_one (e : Pe) : e.cells.toArray.all (·.oneCell') = true := by rw [List.all_toArray]; exact List.all_eq_true.2 Pe.one
theorem pe_info {e : Pe} (h : e.p.Ok) : (Try.prog.info? 28).map (·.size) = some e.cells.toArray.size := by rw [List.size_toArray]; exact pkt_size h
set_option maxRecDepth 100000 in
set_option maxHeartbeats 8000000 in
theorem all_any (q : Nat) (w : World) (began : Int) (v : Value) (es : List Pe) (hq : w.heap[q]? = some (.cells #[.int .i64 began, v] 79 (0, 0))) (ho : OwnK w 0 v es) (hk : ∀ x ∈ es, Kx x) (hl : es.length ≤ 64) (h0 : 0 < es.length) :
    Calls Try.prog 32 #[ptr q] w (Ret w (.bool (allP (es.map Pe.pc)))) := by
  obtain ⟨A4, cc, hv, hcc, hcm, hrow⟩ := ho.form (fun e he => (hk e he).p)
  obtain ⟨n, hn⟩ : ∃ n, n = es.length := ⟨_, rfl⟩
  rw [← hn] at hv hrow hl h0
  obtain ⟨b, of_, hA, hbl, hc⟩ := hrow.at_ h0
  subst hA
  have HN := Lib.hid (show es.length = n ∧ n ≤ 64 ∧ 0 < n from ⟨hn.symm, hl, h0⟩)
  have HK := Lib.hid hk
  have C1 := Lib.hid (fun w' (h : Below w.heap.size w w') => (show w'.cell? ⟨q, 1, none⟩ = some (.slice (some ⟨b, of_, none⟩) n cc) by
    rw [cell_of_row w' q 1 _ _ (0, 0) ((h.block q (Array.getElem?_eq_some_iff.1 hq).1).trans hq), hv]; rfl))
  have CE := Lib.hid (fun w' (h : Below w.heap.size w w') i e (hi : es[i]? = some e) j v (hv : e.cells[j]? = some v) => (show w'.cell? ⟨b, of_ + i * 41 + j, none⟩ = some v from (h.cell (p := ⟨b, of_ + i * 41 + j, none⟩) hbl).trans (hc i e hi j v hv)))
  have c1 := C1.out w (Below.refl _ _)
  clear hq ho hk hl h0 hn hcc hcm hrow hbl hc hv
  unfold ptr
  obtain ⟨V, hV⟩ : ∃ V, V = allP (es.map Pe.pc) := ⟨_, rfl⟩
  rw [← hV]
  have HV := Lib.hid hV
  clear hV
  go_enter Try.func32, Try.ntmps32
  go_upto_region 3 with fail
  go_loopw [3, 11] (fun nx u wr => ∃ k : Nat, u = .int .i64 k ∧ k ≤ n ∧ nx = .int .i64 (nxtP 0 ((es.take k).map Pe.pc)) ∧ contP 0 ((es.take k).map Pe.pc) = true ∧ Below w.heap.size w wr) (fun _ u _ => 2000 - (intOf u).toNat)
  case atStart => exact ⟨0, rfl, Nat.zero_le _, rfl, rfl, Below.refl _ _⟩
  case round =>
    obtain ⟨k, rfl, hk, rfl, hco, hb⟩ := hrel
    have HB := Lib.hid hb
    have HCO := Lib.hid hco
    by_cases hkn : k < n
    rotate_left
    · have q : ¬ (k : Int) < (n : Int) := by omega
      have hcf : contP 0 (es.map Pe.pc) = true := by
        have := HCO.out
        rwa [List.take_of_length_le (by have := HN.out; omega)] at this
      obtain ⟨m, hm⟩ : ∃ m, m + 1 = n := ⟨n - 1, by have := HN.out; omega⟩
      obtain ⟨e, he⟩ : ∃ e, es[m]? = some e := ⟨_, List.getElem?_eq_getElem (by rw [HN.out.1]; omega)⟩
      have hee : e.cells[38]? = some (.bool e.p.more) := by
        have := (pkC.pkC (HK.out e (List.mem_of_getElem? he)).p e.A e.n e.c).more
        simpa [pktV, Pe.cells] using this
      have cm := CE.out wr hb m e he 38 _ hee
      have HVE := Lib.hid (show V = !e.p.more by
        rw [HV.out]
        unfold allP
        have e1 : (es.map Pe.pc).getLast? = some e.pc := by
          rw [List.getLast?_eq_getElem?, List.length_map, List.getElem?_map, show es.length - 1 = m by have := HN.out; omega, he]; rfl
        rw [hcf, e1]
        rfl)
      have c1w := C1.out wr hb
      have w2 : IntKind.i64.wrap ((n : Int) - 1) = (m : Int) := by rw [IntWalk.i64_in _ (by have := HN.out; omega)]; omega
      have w3 : (m : Int) < (n : Int) := by omega
      have w4 : (0 : Int) ≤ (m : Int) := by omega
      generalize e.p.more = mo at *
      clear hb hk hco hkn he hee hcf hm c1
      go_upto_region 9 with fail
      refine wp_region_quiet_lit (by kernel_rfl) (by kernel_rfl) ?_
      repeat (first | go_big_quiet_step (fail) | quiet_step (fail))
      refine wpQuiet_nil ?_
      intro _ hw'
      obtain ⟨nq, hw''⟩ := hw'
      subst hw''
      clear c1w cm
      go_wp2
      go_ret
      exact ⟨ret_bool HVE.out.symm, HB.out.trans ⟨rfl, rfl, rfl, Nat.le_refl _, fun _ _ => rfl⟩⟩
    obtain ⟨e, he⟩ : ∃ e, es[k]? = some e := ⟨_, List.getElem?_eq_getElem (by rw [HN.out.1]; exact hkn)⟩
    have hem := List.mem_of_getElem? he
    have hek := HK.out e hem
    have CL := Lib.hid (show ∀ j v, e.cells[j]? = some v → wr.cell? ⟨b, of_ + k * 41 + j, none⟩ = some v from CE.out wr hb k e he)
    have IX := Lib.hid (pkt_size hek.p)
    have IY := Lib.hid (pe_info hek.p)
    have ZX := Lib.hid (zP_size hek.p)
    have OX := Lib.hid (pe_one e)
    have HT := Lib.hid (show (es.take (k + 1)).map Pe.pc = (es.take k).map Pe.pc ++ [e.pc] by rw [List.take_add_one, he, List.map_append]; rfl)
    have w1 : IntKind.i64.wrap ((k : Int) + 1) = (k : Int) + 1 := IntWalk.i64_in _ (by have := HN.out; omega)
    have q1 : (k : Int) < (n : Int) := by omega
    have HKN := Lib.hid hkn
    have EN := Lib.hid (fun w' => end_any e.p e.A e.n e.c w' hek.p hek.b)
    have cof : e.cells[39]? = some (.int .i64 e.p.off) := by
      have := (pkC.pkC hek.p e.A e.n e.c).off
      simpa [pktV, Pe.cells] using this
    have HNX := Lib.hid (show nxtP 0 ((es.take (k + 1)).map Pe.pc) = e.p.off + (e.n : Int) by rw [HT.out, nxt_snoc, end_pc hek])
    have HCX := Lib.hid (show contP 0 ((es.take (k + 1)).map Pe.pc) = decide (e.p.off = nxtP 0 ((es.take k).map Pe.pc)) by rw [HT.out, cont_snoc, HCO.out, Bool.true_and]; rfl)
    have RY := Lib.hid (show (wr.alloc (.cells e.cells.toArray 28)).heap[wr.heap.size]? = some (.cells e.cells.toArray 28 (0, 0)) from heap_alloc_new _ _)
    have BY := Lib.hid (show Below w.heap.size w (wr.alloc (.cells e.cells.toArray 28)) from HB.out.trans ((alloc_below _ _).mono HB.out.size))
    have cy : (wr.alloc (.cells e.cells.toArray 28)).cell? ⟨wr.heap.size, 39, none⟩ = some (.int .i64 e.p.off) := by rw [cell_of_row _ _ 39 _ _ (0, 0) RY.out, List.getElem?_toArray]; exact cof
    have ey : (pktV e.p e.A e.n e.c) = e.cells.toArray := rfl
    rw [ey] at EN
    have HFULL := Lib.hid (show contP 0 ((es.take (k + 1)).map Pe.pc) = false → V = false from fun h => by
      rw [HV.out]
      unfold allP
      cases hc9 : contP 0 (es.map Pe.pc)
      · rfl
      · have := cont_take (es.map Pe.pc) (k + 1) 0 hc9
        rw [← List.map_take, h] at this
        cases this)
    generalize e.cells = X at *
    generalize nxtP 0 ((es.take k).map Pe.pc) = nx at *
    generalize e.p.off = oe at *
    clear hb hk hco hem hek he cof ey hkn
    by_cases hoff : oe = nx
    · have q2 : (oe != nx) = false := by rw [hoff]; simp
      have HOF := Lib.hid hoff
      clear hoff
      go_wp2_with (first
        | (refine partC.wpList_load_part rfl 28 (.tmp 13) rfl b (of_ + k * 41) rfl X _ CL.out Try.underlying28 rfl IX.out ?_)
        | (refine wpList_store_row rfl 28 (.tmp 5) (.tmp 14) rfl wr.heap.size X.toArray rfl rfl _ _ (heap_alloc_new _ _) IY.out ZX.out OX.out ?_; rw [World.setRow_alloc_new])
        | (refine wpList_load_row rfl 28 (.tmp 5) rfl wr.heap.size rfl _ _ _ _ RY.out Try.underlying28 rfl IY.out ?_)
        | (go_at_call 49; refine (EN.out _).mono ?_; rintro e2 w3 ⟨rfl, hb3⟩; have HB3 := Lib.hid (BY.out.trans (hb3.mono BY.out.size)); clear hb3))
      go_roundw
      case rel => exact ⟨k + 1, by simp, by have := HKN.out; omega, by rw [HNX.out], by rw [HCX.out]; exact decide_eq_true HOF.out, HB3.out⟩
      case measure => have := HN.out; have := HKN.out; simp [intOf]; omega
    · have q2 : (oe != nx) = true := by simp [bne, hoff]
      have HVF := Lib.hid (HFULL.out (by rw [HCX.out]; exact decide_eq_false hoff))
      clear hoff w1
      go_wp2_with (first
        | (refine partC.wpList_load_part rfl 28 (.tmp 13) rfl b (of_ + k * 41) rfl X _ CL.out Try.underlying28 rfl IX.out ?_)
        | (refine wpList_store_row rfl 28 (.tmp 5) (.tmp 14) rfl wr.heap.size X.toArray rfl rfl _ _ (heap_alloc_new _ _) IY.out ZX.out OX.out ?_; rw [World.setRow_alloc_new]))
      go_ret
      exact ⟨ret_bool HVF.out.symm, BY.out⟩
/-- one value is appended to an own row -/
theorem wpList_app1 {P : Program} {ops : Array Oper} {rest : List Oper} {o : Oper} {a : Act} {Q : Exit → Act → World → Prop} (w : World) (hgd : o.guard = none) (s x : Operand) (LT ET k bytes : Nat) (ho : o.op = .call { callee := .builtin .append, args := #[s, x], argTypes := #[LT, LT] }) (hu : P.underlying LT = some (.slice ET)) (i : TypeInfo) (z : Value) (hi : P.info? ET = some i) (hz : i.zero = some z) (hs : i.size = k) (hby : i.bytes = bytes) (hzs : z.cells.size = k) (hpos : 0 < k) (hb8 : bytes ≤ 1000)
    (base : Nat) (v : Value) (n : Nat) (l : List Value) (hv : a.eval s = v) (hown : w.ownsRow base ET k v n l) (hn : n ≤ 1000) (g : Nat) (X : Array Value) (hx : a.eval x = .slice (some ⟨g, 0, none⟩) 1 1) (hg : w.heap[g]? = some (.cells X ET (0, 0))) (hX : X.size = k) (h1 : ∀ u ∈ X.toList, u.oneCell' = true) (hb : base ≤ w.heap.size)
    (h : ∀ v' w', w'.ownsRow base ET k v' (n + 1) (l ++ X.toList) → w.grownBy w' v.ownBlock → wpList P ops Q rest (a.put o.dst v') w') : wpList P ops Q (o :: rest) a w := by
  obtain ⟨v', w', hrun, h2, h3, -, -⟩ := run_append_own_at (P := P) w base LT o.type ET i z k bytes hu hi hz hs hby hzs hpos v n l hown ⟨g, 0, none⟩ 1 1 X.toList (by rw [show X.toList.length = X.size from rfl, hX, Nat.one_mul])
    (fun j u hu => by rw [memC.add_plain, Nat.zero_add, cell_of_row w g j _ _ (0, 0) hg]; simpa using hu) h1 (by unfold maxLen; omega) (by have : (n + 1) * bytes ≤ 1001 * 1000 := Nat.mul_le_mul (by omega) hb8; omega) hb
  refine wpList_plain hgd fun K hK => ?_
  unfold Oper.wp execOp
  simp only [ho, resolve, invoke, builtin, Sem.run_bind, Sem.run_pure, Result.andThen_ok, List.map_toArray, List.map_cons, List.map_nil, hv, hx, hrun]
  exact hK _ _ (h v' w' h2 h3)
def ldV (e : Pe) : Value := .slice e.A e.n e.c
def ldP (e : Pe) : Part := ⟨e.A, e.n, e.c, e.x⟩
theorem slc_info : (Try.prog.info? 26).map (fun i => (i.zero, i.size, i.bytes)) = some (some (.slice none 0 0), 1, 24) := by kernel_rfl
theorem parts_own {w : World} {base B n : Nat} {v : Value} {es : List Pe} (h : w.ownsRow base 26 1 v n (es.map ldV)) (hl : es.length = n) (h0 : 0 < n) (hld : ∀ e ∈ es, Nums .u8 w B e.A e.n e.x ∧ e.n ≤ 100000) (hB : w.heap.size ≤ B) :
    ∃ A c, v = .slice A n c ∧ PartsK w B A (es.map ldP) := by
  rcases h.2 with ⟨-, h9⟩ | ⟨g, cap, cur, e1, hb, hh, h1, h2, h3, h4⟩
  · omega
  refine ⟨_, _, e1, ⟨fun _ => ⟨g, 0, rfl, Nat.lt_of_lt_of_le (Array.getElem?_eq_some_iff.1 hh).1 hB, fun i hi => ?_⟩, fun p hp => ?_⟩⟩
  · have hi' : i < es.length := by simpa using hi
    rw [Nat.zero_add, cell_of_row w g i _ _ (0, 0) hh]
    have e2 : (cur.toList.take (n * 1))[i]? = (es.map ldV)[i]? := by rw [h4]
    rw [List.getElem?_take_of_lt (by omega), Array.getElem?_toList] at e2
    rw [e2, List.getElem?_map, List.getElem?_eq_getElem hi']
    simp [ldV, ldP]
  · obtain ⟨e, he, rfl⟩ := List.mem_map.1 hp
    exact hld e he
set_option maxRecDepth 100000 in
set_option maxHeartbeats 8000000 in
theorem whole_any (q : Nat) (w : World) (began : Int) (v : Value) (es : List Pe) (hq : w.heap[q]? = some (.cells #[.int .i64 began, v] 79 (0, 0))) (ho : OwnK w 0 v es) (hk : ∀ x ∈ es, Kx x) (hl : es.length ≤ 64) (h0 : 0 < es.length) (hld : ∀ e ∈ es, Nums .u8 w w.heap.size e.A e.n e.x ∧ e.n ≤ 100000) (e0 : Pe) (hh0 : es[0]? = some e0) (kt : Nat) (hk9 : nsum (es.map ldP) = kt) (h19 : kt ≤ 1000000) :
    Calls Try.prog 34 #[ptr q] w (JoinRet w e0.p (catL (es.map ldP)) kt) := by
  obtain ⟨A4, cc, hv, hcc, hcm, hrow⟩ := ho.form (fun e he => (hk e he).p)
  obtain ⟨n, hn⟩ : ∃ n, n = es.length := ⟨_, rfl⟩
  rw [← hn] at hv hrow hl h0
  obtain ⟨b, of_, hA, hbl, hc⟩ := hrow.at_ h0
  subst hA
  have HN := Lib.hid (show es.length = n ∧ n ≤ 64 ∧ 0 < n from ⟨hn.symm, hl, h0⟩)
  have HK := Lib.hid hk
  have C1 := Lib.hid (fun w' (h : Below w.heap.size w w') => (show w'.cell? ⟨q, 1, none⟩ = some (.slice (some ⟨b, of_, none⟩) n cc) by
    rw [cell_of_row w' q 1 _ _ (0, 0) ((h.block q (Array.getElem?_eq_some_iff.1 hq).1).trans hq), hv]; rfl))
  have CE := Lib.hid (fun w' (h : Below w.heap.size w w') i e (hi : es[i]? = some e) j v (hv : e.cells[j]? = some v) => (show w'.cell? ⟨b, of_ + i * 41 + j, none⟩ = some v from (h.cell (p := ⟨b, of_ + i * 41 + j, none⟩) hbl).trans (hc i e hi j v hv)))
  clear hq ho hk hl h0 hn hcc hcm hrow hbl hc hv
  have HLD := Lib.hid hld
  obtain ⟨W, hW⟩ : ∃ W, W = w.alloc (.cells (pktV zPkt none 0 0) 28) := ⟨_, rfl⟩
  have R0 := Lib.hid (show W.heap[w.heap.size]? = some (.cells (pktV zPkt none 0 0) 28 (0, 0)) by rw [hW]; exact heap_alloc_new _ _)
  have HB0 := Lib.hid (show Below w.heap.size w W by rw [hW]; exact alloc_below _ _)
  have HWS := Lib.hid (show W.heap.size = w.heap.size + 1 by rw [hW]; simp)
  have c1 := C1.out W HB0.out
  have HH0 := Lib.hid hh0
  have HNK := Lib.hid (show nsum (es.map ldP) = kt ∧ kt ≤ 1000000 from ⟨hk9, h19⟩)
  clear hld hh0 hk9 h19
  obtain ⟨i0, hi0, hz0, hz1, hz2⟩ := info_parts slc_info
  have T1 := Lib.hid hi0; have T2 := Lib.hid hz0; have T3 := Lib.hid hz1; have T4 := Lib.hid hz2
  clear hi0 hz0 hz1 hz2
  have KZ : (zeroValue 28).run Try.prog w = .ok (.agg (pktV zPkt none 0 0)) w := zeroPktK _
  unfold ptr
  go_enter Try.func34, Try.ntmps34
  go_upto_region 1 with fail
  rw [← hW]
  clear hW KZ
  go_upto_region 3 with fail
  go_loopw [3, 11] (fun v u wr => ∃ j : Nat, u = .int .i64 j ∧ j ≤ n ∧ wr.ownsRow W.heap.size 26 1 v j ((es.take j).map ldV) ∧ Below W.heap.size W wr) (fun _ u _ => 2000 - (intOf u).toNat)
  case atStart => exact ⟨0, rfl, Nat.zero_le _, World.ownsRow_nil _ _ _ _, Below.refl _ _⟩
  case round =>
    obtain ⟨k, rfl, hk, hown, hb1⟩ := hrel
    have HB1 := Lib.hid hb1
    have hb := HB0.out.trans (hb1.mono HB0.out.size)
    have HB := Lib.hid hb
    have HOW := Lib.hid hown
    by_cases hkn : k < n
    rotate_left
    · have q : ¬ (k : Int) < (n : Int) := by omega
      have hkn2 : k = n := by omega
      subst hkn2
      have hoe := HOW.out
      rw [List.take_of_length_le (by have := HN.out; omega)] at hoe
      obtain ⟨Av, cv, hvv, hpk⟩ := parts_own (B := wr.heap.size) hoe HN.out.1 HN.out.2.2 (fun e he => ⟨((HLD.out e he).1.below HB.out).more HB.out.size, (HLD.out e he).2⟩) (Nat.le_refl _)
      subst hvv
      have hem := List.mem_of_getElem? HH0.out
      have JN := Lib.hid (joined_any e0.p e0.A e0.n e0.c Av k cv kt (es.map ldP) wr (HK.out e0 hem).p hpk (by have := HN.out; omega) (by rw [List.length_map]; exact HN.out.1) HNK.out.1 HNK.out.2)
      have CL := Lib.hid (show ∀ j v, e0.cells[j]? = some v → wr.cell? ⟨b, of_ + j, none⟩ = some v from fun j v hv => by
        have := CE.out wr HB.out 0 e0 HH0.out j v hv
        rwa [Nat.zero_mul, Nat.add_zero] at this)
      have IX := Lib.hid (pkt_size (HK.out e0 hem).p)
      have c1w := C1.out wr HB.out
      have q0 : (0 : Int) < (k : Int) := by have := HN.out; omega
      have RZ := Lib.hid (show wr.heap[w.heap.size]? = some (.cells (pktV zPkt none 0 0) 28 (0, 0)) from (HB1.out.block _ (Array.getElem?_eq_some_iff.1 R0.out).1).trans R0.out)
      have ey : pktV e0.p e0.A e0.n e0.c = e0.cells.toArray := rfl
      rw [ey] at JN
      have OKJ := Lib.hid (show (joinK e0.p).Ok by
        have hp := (HK.out e0 hem).p
        unfold joinK
        split
        · exact ⟨hp.la, hp.lb, hp.ya, hp.yb, hp.proto, hp.hops, (show (0 : Int) ≤ 0 ∧ (0 : Int) ≤ 4294967295 by decide), hp.off⟩
        · exact ⟨hp.la, hp.lb, hp.ya, hp.yb, hp.proto, hp.hops, hp.id, hp.off⟩)
      generalize e0.cells = X at *
      clear hb hb1 hk hown hkn hoe hpk hem c1 ey
      go_upto_region 7 with fail
      go_wp2_with (first
        | (refine partC.wpList_load_part rfl 28 (.tmp 25) rfl b of_ rfl X _ CL.out Try.underlying28 rfl IX.out ?_)
        | (go_at_call 29; refine JN.out.mono ?_; rintro e wj ⟨Aj, cj, rfl, oj, gj1, gj2, bj⟩
           have RZj := Lib.hid ((bj.block _ (Array.getElem?_eq_some_iff.1 RZ.out).1).trans RZ.out)
           have OJ := Lib.hid oj
           have BJ := Lib.hid (HB.out.trans (bj.mono HB.out.size))
           have GJ := Lib.hid (show _ ∧ _ from ⟨gj1, gj2⟩)
           have IJ := Lib.hid (pkt_info OKJ.out Aj kt cj)
           have SJ := Lib.hid (show (pktV zPkt none 0 0).size = (pktV (joinK e0.p) Aj kt cj).size by rw [(pkC.pkC OKJ.out Aj kt cj).size]; rfl)
           have NJ := Lib.hid (pkt_one (joinK e0.p) Aj kt cj)
           clear oj bj gj1 gj2)
        | (refine wpList_store_row rfl 28 (.tmp 2) (.tmp 28) rfl (w.heap.size) _ rfl rfl _ _ RZj.out IJ.out SJ.out NJ.out ?_))
      refine bodyPost_ret (v := .agg (pktV (joinK e0.p) Aj kt cj)) (results_cell_row Try.results34 _ _ (w.heap.size) _ _ _ _ (by rfl) (setRow_heap _ _ _ _ _ _ RZj.out) Try.underlying28 rfl IJ.out) rfl ⟨Aj, cj, rfl, ?_, GJ.out.1, GJ.out.2, ?_⟩
      · exact (OJ.out.keep fun g g1 g2 => setRow_other _ _ _ _ (by have := HWS.out; have := HB1.out.size; omega)).less HB.out.size
      · exact below_setRow BJ.out (Nat.le_refl _) _
    obtain ⟨e, he⟩ : ∃ e, es[k]? = some e := ⟨_, List.getElem?_eq_getElem (by rw [HN.out.1]; exact hkn)⟩
    have hem := List.mem_of_getElem? he
    have hek := HK.out e hem
    have CL := Lib.hid (show ∀ j v, e.cells[j]? = some v → wr.cell? ⟨b, of_ + k * 41 + j, none⟩ = some v from CE.out wr hb k e he)
    have IX := Lib.hid (pkt_size hek.p)
    have IY := Lib.hid (pe_info hek.p)
    have ZX := Lib.hid (zP_size hek.p)
    have OX := Lib.hid (pe_one e)
    have HT := Lib.hid (show (es.take (k + 1)).map ldV = (es.take k).map ldV ++ [ldV e] by rw [List.take_add_one, he, List.map_append]; rfl)
    have w1 : IntKind.i64.wrap ((k : Int) + 1) = (k : Int) + 1 := IntWalk.i64_in _ (by have := HN.out; omega)
    have q1 : (k : Int) < (n : Int) := by omega
    have HKN := Lib.hid hkn
    have cof : e.cells[40]? = some (.slice e.A e.n e.c) := by
      have := (pkC.pkC hek.p e.A e.n e.c).load
      simpa [pktV, Pe.cells] using this
    obtain ⟨Wy, hWy⟩ : ∃ Wy, Wy = wr.alloc (.cells e.cells.toArray 28) := ⟨_, rfl⟩
    have RY := Lib.hid (show Wy.heap[wr.heap.size]? = some (.cells e.cells.toArray 28 (0, 0)) by rw [hWy]; exact heap_alloc_new _ _)
    have BY := Lib.hid (show Below W.heap.size W Wy by rw [hWy]; exact HB1.out.trans ((alloc_below _ _).mono HB1.out.size))
    have OY := Lib.hid (show Wy.ownsRow W.heap.size 26 1 u3 k ((es.take k).map ldV) by rw [hWy]; exact own_row_same HOW.out fun g hg => (alloc_below wr _).block g (HOW.out.lt g hg).2)
    have cy : Wy.cell? ⟨wr.heap.size, 40, none⟩ = some (.slice e.A e.n e.c) := by rw [cell_of_row _ _ 40 _ _ (0, 0) RY.out, List.getElem?_toArray]; exact cof
    have HVL := Lib.hid (show ldV e = .slice e.A e.n e.c from rfl)
    generalize ldV e = le at *
    generalize e.cells = X at *
    generalize e.A = Ae at *
    generalize e.n = ne at *
    generalize e.c = ce at *
    have HWY := Lib.hid hWy
    clear hb hb1 hk hown hem hek he cof hkn hWy
    go_upto_region 5 with (first
        | (refine partC.wpList_load_part rfl 28 (.tmp 13) rfl b (of_ + k * 41) rfl X _ CL.out Try.underlying28 rfl IX.out ?_)
        | (refine wpList_store_row rfl 28 (.tmp 5) (.tmp 14) rfl wr.heap.size X.toArray rfl rfl _ _ (heap_alloc_new _ _) IY.out ZX.out OX.out ?_; rw [World.setRow_alloc_new]))
    rw [← HWY.out]
    obtain ⟨Wz, hWz⟩ : ∃ Wz, Wz = Wy.alloc (.cells #[.slice Ae ne ce] 26) := ⟨_, rfl⟩
    have RZ := Lib.hid (show Wz.heap[Wy.heap.size]? = some (.cells #[.slice Ae ne ce] 26 (0, 0)) by rw [hWz]; exact heap_alloc_new _ _)
    have BZ := Lib.hid (show Below W.heap.size W Wz by rw [hWz]; exact BY.out.trans ((alloc_below _ _).mono BY.out.size))
    have OZ := Lib.hid (show Wz.ownsRow W.heap.size 26 1 u3 k ((es.take k).map ldV) by rw [hWz]; exact own_row_same OY.out fun g hg => (alloc_below Wy _).block g (OY.out.lt g hg).2)
    have HWZ := Lib.hid hWz
    clear hWz
    go_wp2_with (first
      | (at_builtin
         (try rw [← HWZ.out])
         (refine wpList_app1 _ rfl (.tmp 15) (.tmp 18) 83 26 1 24 rfl Try.underlying83 i0 _ T1.out T2.out T3.out T4.out rfl (by decide) (by decide) W.heap.size _ k _ rfl OZ.out (by have := HN.out; have := HKN.out; omega) Wy.heap.size _ rfl RZ.out rfl (by intro u hu; obtain rfl := List.mem_singleton.1 hu; rfl) BZ.out.size ?_)
         intro v9 w9 o9 g9
         have O9 := Lib.hid o9
         have B9 := Lib.hid (show Below W.heap.size W w9 from Below.grown BZ.out g9 BZ.out.size fun g hg => (OZ.out.lt g hg).1)
         clear o9 g9))
    go_roundw
    case rel => exact ⟨k + 1, by simp, by have := HKN.out; omega, by rw [HT.out, HVL.out]; exact O9.out, B9.out⟩
    case measure => have := HN.out; have := HKN.out; simp [intOf]; omega
end Go.Proofs.Ytcnnpfjommiafaa.fgC

/-
  New; the name of a packet, as it is built.
-/
namespace Go.Proofs.Ytcnnpfjommiafaa.fgC
open Go.ChangeShapes Go.WideShapes Go.ChangeAt Go.RowKit
open Go.Proofs.Ytcnnpfjommiafaa.memC Go.Proofs.Ytcnnpfjommiafaa.genC Go.Proofs.Ytcnnpfjommiafaa.butC Go.Proofs.Ytcnnpfjommiafaa.freeC Go.Proofs.Ytcnnpfjommiafaa.adC
open Go.Proofs.Ytcnnpfjommiafaa.pkC (Pkt pktL pktV pktT adrC)
set_option linter.unusedVariables false
theorem len_succ {l : List Int} {n : Nat} (h : l.length = n + 1) : ∃ x r, l = x :: r ∧ r.length = n := by
  cases l with
  | nil => cases h
  | cons x r => exact ⟨x, r, rfl, by simpa using h⟩
theorem len16 {l : List Int} (h : l.length = 16) : ∃ x0 x1 x2 x3 x4 x5 x6 x7 x8 x9 x10 x11 x12 x13 x14 x15, l = [x0, x1, x2, x3, x4, x5, x6, x7, x8, x9, x10, x11, x12, x13, x14, x15] := by
  obtain ⟨x0, l0, rfl, h0⟩ := len_succ h
  obtain ⟨x1, l1, rfl, h1⟩ := len_succ h0
  obtain ⟨x2, l2, rfl, h2⟩ := len_succ h1
  obtain ⟨x3, l3, rfl, h3⟩ := len_succ h2
  obtain ⟨x4, l4, rfl, h4⟩ := len_succ h3
  obtain ⟨x5, l5, rfl, h5⟩ := len_succ h4
  obtain ⟨x6, l6, rfl, h6⟩ := len_succ h5
  obtain ⟨x7, l7, rfl, h7⟩ := len_succ h6
  obtain ⟨x8, l8, rfl, h8⟩ := len_succ h7
  obtain ⟨x9, l9, rfl, h9⟩ := len_succ h8
  obtain ⟨x10, l10, rfl, h10⟩ := len_succ h9
  obtain ⟨x11, l11, rfl, h11⟩ := len_succ h10
  obtain ⟨x12, l12, rfl, h12⟩ := len_succ h11
  obtain ⟨x13, l13, rfl, h13⟩ := len_succ h12
  obtain ⟨x14, l14, rfl, h14⟩ := len_succ h13
  obtain ⟨x15, l15, rfl, h15⟩ := len_succ h14
  obtain rfl := List.eq_nil_of_length_eq_zero h15
  exact ⟨_, _, _, _, _, _, _, _, _, _, _, _, _, _, _, _, rfl⟩
set_option maxRecDepth 100000 in
theorem nm_built0 (s t : Bool) (a0 a1 a2 a3 a4 a5 a6 a7 a8 a9 a10 a11 a12 a13 a14 a15 b0 b1 b2 b3 b4 b5 b6 b7 b8 b9 b10 b11 b12 b13 b14 b15 id pr : Int) : Try.prog.built 72 [(0, .agg (adrC s [a0, a1, a2, a3, a4, a5, a6, a7, a8, a9, a10, a11, a12, a13, a14, a15]).toArray), (1, .agg (adrC t [b0, b1, b2, b3, b4, b5, b6, b7, b8, b9, b10, b11, b12, b13, b14, b15]).toArray), (2, .int .u32 id), (3, .int .u8 pr)] = some (nmV ⟨s, [a0, a1, a2, a3, a4, a5, a6, a7, a8, a9, a10, a11, a12, a13, a14, a15], t, [b0, b1, b2, b3, b4, b5, b6, b7, b8, b9, b10, b11, b12, b13, b14, b15], id, pr⟩) := by kernel_rfl
theorem nm_built {p : Pkt} (h : p.Ok) : Try.prog.built 72 [(0, .agg (adrC p.s p.a).toArray), (1, .agg (adrC p.t p.b).toArray), (2, .int .u32 p.id), (3, .int .u8 p.proto)] = some (nmV (nmOf p)) := by
  obtain ⟨a0, a1, a2, a3, a4, a5, a6, a7, a8, a9, a10, a11, a12, a13, a14, a15, ha⟩ := len16 h.la
  obtain ⟨b0, b1, b2, b3, b4, b5, b6, b7, b8, b9, b10, b11, b12, b13, b14, b15, hb⟩ := len16 h.lb
  unfold nmOf
  rw [ha, hb]
  exact nm_built0 _ _ _ _ _ _ _ _ _ _ _ _ _ _ _ _ _ _ _ _ _ _ _ _ _ _ _ _ _ _ _ _ _ _ _ _
theorem results_cell_tmp2 {P : Program} {fn : Func} {p q r : Tmp} {ty : TypeId} (h : fn.results = #[.cell p ty, .tmp q, .tmp r]) (tmps : Array Value) (w : World) (g : Nat) (t : TypeId) (cs : Array Value) (fr : Nat × Nat) (d : TypeDesc) (v u : Value)
    (hp : tmps.getD p undef = .pointer (some ⟨g, 0, none⟩)) (hg : w.heap[g]? = some (.cells cs t fr)) (hu : P.underlying ty = some d) (hd : (match d with | .struct _ | .array _ _ => true | _ => false) = true) (hi : (P.info? ty).map (·.size) = some cs.size)
    (hp2 : tmps.getD q undef = v) (hp3 : tmps.getD r undef = u) :
    (results fn tmps).run P w = .ok (.tuple #[.agg cs, v, u]) w := by
  have hp' : tmps[p]?.getD undef = .pointer (some ⟨g, 0, none⟩) := by simpa using hp
  have hp2' : tmps[q]?.getD undef = v := by simpa using hp2
  have hp3' : tmps[r]?.getD undef = u := by simpa using hp3
  simp [results, h, hp', hp2', hp3', asAddr, run_loadVar_row w g t ty cs fr d hg hu hd hi]
set_option maxRecDepth 100000 in
set_option maxHeartbeats 4000000 in
theorem new_no (room : Int) (w : World) (h : ¬ (1 ≤ room ∧ room ≤ 64)) : Calls Try.prog 11 #[.int .i64 room] w (Ret w (.tuple #[.pointer none, .int .i64 1])) := by
  by_cases h1 : room < 1
  · clear h
    go_enter Try.func11, Try.ntmps11
    go_wp2_with go_skip
    go_ret2
    exact ⟨rfl, Below.refl _ _⟩
  · have h2 : room > 64 := by omega
    clear h
    go_enter Try.func11, Try.ntmps11
    go_wp2_with go_skip
    go_ret2
    exact ⟨rfl, Below.refl _ _⟩
set_option maxRecDepth 100000 in
set_option maxHeartbeats 4000000 in
theorem new_any (room : Int) (w : World) (h : 1 ≤ room ∧ room ≤ 64) : Calls Try.prog 11 #[.int .i64 room] w fun e w' => ∃ t m, e = .returned (.tuple #[.pointer (some ⟨t, 0, none⟩), .int .i64 0]) ∧ TC w' (fun k => k = t ∨ k = m) t room 0 m (.slice none 0 0) [] ∧ w.heap.size ≤ t ∧ w.heap.size ≤ m ∧ Below w.heap.size w w' := by
  have h1 : ¬ room < 1 := by omega
  have h2 : ¬ room > 64 := by omega
  have hmm := @run_makeMap Try.prog
  obtain ⟨W1, hW1⟩ : ∃ W, W = w.alloc (.map #[] 0) := ⟨_, rfl⟩
  obtain ⟨W, hW⟩ : ∃ W, W = W1.alloc (.cells #[.pointer none, .int .i64 room, .int .i64 0, .map (some w.heap.size), .slice none 0 0] 58) := ⟨_, rfl⟩
  have B1 := Lib.hid (show Below w.heap.size w W1 by rw [hW1]; exact alloc_below _ _)
  have B2 := Lib.hid (show Below W1.heap.size W1 W by rw [hW]; exact alloc_below _ _)
  have S1' := Lib.hid (show W1.heap.size = w.heap.size + 1 by rw [hW1]; simp)
  have M1 := Lib.hid (show MapAt W w.heap.size [] from (by rw [hW1]; exact MapAt.made w : MapAt W1 w.heap.size []).same (B2.out.block _ (by rw [S1'.out]; omega)))
  have RT := Lib.hid (show W.heap[w.heap.size + 1]? = some (.cells #[.pointer none, .int .i64 room, .int .i64 0, .map (some w.heap.size), .slice none 0 0] 58 (0, 0)) by rw [hW, ← S1'.out]; exact heap_alloc_new _ _)
  have SW := Lib.hid (show W.heap.size = w.heap.size + 2 by rw [hW]; simp [S1'.out])
  have c0 : W.cell? ⟨w.heap.size + 1, 0, none⟩ = some (.pointer none) := cell_of_row W _ 0 _ _ (0, 0) RT.out
  have f0 : W.frozen? ⟨w.heap.size + 1, 0, none⟩ = false := frozen_of_row W _ 0 _ _ RT.out
  have HW := Lib.hid hW
  have HW1 := Lib.hid hW1
  have HS := Lib.hid (show W1.heap.size = w.heap.size + 1 from S1'.out)
  clear h hW hW1
  go_enter Try.func11, Try.ntmps11
  go_upto_region 4 with go_skip
  have e1 : (w.alloc (.map #[] 0)).alloc (.cells #[.pointer none, .int .i64 room, .int .i64 0, .map (some w.heap.size), .slice none 0 0] 58) = W := by rw [HW.out, HW1.out]
  try rw [← HW1.out]
  try rw [← HW.out]
  try rw [e1]
  try rw [HS.out]
  clear e1
  go_wp2_with go_skip
  go_ret2
  refine ⟨w.heap.size + 1, rfl, w.heap.size, ⟨heap_setCell_same W _ 0 _ _ _ RT.out, .inl rfl, .inr rfl, M1.out.same (Below.heap_setCell _ _ _ _ (by show w.heap.size ≠ w.heap.size + 1; omega)), World.ownsRow_nil _ _ _ _, fun g hg => (by cases hg), fun x hx => (by cases hx), List.nodup_nil, List.Pairwise.nil, List.nodup_nil, fun x hx => (by cases hx), fun k hk => ?_⟩, Nat.le_succ _, Nat.le_refl _, ?_⟩
  · rw [show (W.setCell ⟨w.heap.size + 1, 0, none⟩ (.pointer (some ⟨w.heap.size + 1, 0, none⟩))).heap.size = W.heap.size by simp [World.setCell], SW.out]
    rcases hk with rfl | rfl <;> omega
  · exact (B1.out.trans (B2.out.mono B1.out.size)).setCell (p := ⟨w.heap.size + 1, 0, none⟩) (Nat.le_succ _) _
end Go.Proofs.Ytcnnpfjommiafaa.fgC
