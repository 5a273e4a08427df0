/-
  6 texts of a proof, joined.
-/
import Derived.Test.YtmedccfekfnmlaaMg12
import Derived.Test.YtmedccfekfnmlaaMg22
import Derived.Test.YtmedccfekfnmlaaMg11
import Derived.Lib.SlBytesConst
import Derived.Test.YtmedccfekfnmlaaMg10
import Derived.Test.YtmedccfekfnmlaaMg4
import Derived.Test.YtmedccfekfnmlaaMg9
import Derived.Test.YtmedccfekfnmlaaMg14

/-
  The program's ipfour, by contracts: Same, May, Lay, Parse, Hop.
-/
namespace Go.Proofs.Ytmedccfekfnmlaa.pkC
open Go.ChangeShapes Go.WideShapes Go.ChangeAt Go.RowKit
open Go.Proofs.Ytmedccfekfnmlaa.memC Go.Proofs.Ytmedccfekfnmlaa.genC Go.Proofs.Ytmedccfekfnmlaa.adC
set_option linter.unusedVariables false
/-- an own slice has room for what it holds -/
theorem own_cap {k : IntKind} {e : TypeId} {w : World} {base : Nat} {A : Option Addr} {n c : Nat} {xs : List Int} (h : Own k e w base (.slice A n c) xs) : n ≤ c ∧ c ≤ 9223372036854775807 := by
  have hl := h.len
  obtain ⟨A', c', e2, h1, h2, _⟩ := h.form
  cases e2
  unfold maxLen at h2
  exact ⟨h1, by omega⟩
end Go.Proofs.Ytmedccfekfnmlaa.pkC

/-
  The statements' probe: a packet laid, read, and with one hop less.
-/
namespace Go.Proofs.Ytmedccfekfnmlaa.pkC
open Go.ChangeShapes Go.WideShapes Go.ChangeAt Go.RowKit
open Go.Proofs.Ytmedccfekfnmlaa.memC Go.Proofs.Ytmedccfekfnmlaa.genC Go.Proofs.Ytmedccfekfnmlaa.butC Go.Proofs.Ytmedccfekfnmlaa.freeC Go.Proofs.Ytmedccfekfnmlaa.adC
set_option linter.unusedVariables false
theorem wpList_builtN {P : Program} {ops : Array Oper} {rest : List Oper} {o : Oper} {a : Act} {w : World} {Q : Exit → Act → World → Prop} (hg : o.guard = none) (t : TypeId) (xs : Array (Nat × Operand)) (ho : o.op = .build t xs)
    (vs : List (Nat × Value)) (hx : (xs.toList.map fun q => (q.1, a.eval q.2)) = vs) (cells : Array Value) (hf : P.built t vs = some cells)
    (h : wpList P ops Q rest (a.put o.dst (.agg cells)) w) : wpList P ops Q (o :: rest) a w := by
  refine wpList_plain hg fun _ hK => ?_
  unfold Oper.wp execOp
  have hb : (Instr.build t (xs.map fun q => (q.1, a.eval q.2))).run P w = .ok (.agg cells) w := run_build w t _ cells (by rw [Array.toList_map, hx]; exact hf)
  simp only [ho, Sem.run_bind, hb, Result.andThen_ok, Sem.run_pure]
  exact hK _ _ h
theorem kPk_built (A : Option Addr) (n c : Nat) : Try.prog.built 28 [(2, .int .u8 6), (3, .int .u8 2), (8, .slice A n c)] = some (pktV kPk A n c) := by kernel_rfl
set_option maxRecDepth 100000 in
set_option maxHeartbeats 2000000 in
theorem alive_any (w : World) : Calls Try.prog 8 #[] w (Ret w (.bool true)) := by
  have hzv := zeroPkt
  have hcv : (convert 26 26 (.slice (some ⟨w.heap.size, 0, none⟩) 2 2)).run Try.prog (w.alloc (.cells #[.int .u8 97, .int .u8 98] 5)) =
      .ok (.slice (some ⟨w.heap.size, 0, none⟩) 2 2) (w.alloc (.cells #[.int .u8 97, .int .u8 98] 5 (2, 3))) :=
    Lib.run_convert_bytes_const w 26 5 #[.int .u8 97, .int .u8 98] 2 2 Try.underlying26 Try.underlying5
  obtain ⟨W1, hW1⟩ : ∃ W1, W1 = w.alloc (.cells #[.int .u8 97, .int .u8 98] 5 (2, 3)) := ⟨_, rfl⟩
  have e1 : W1.heap.size = w.heap.size + 1 := by rw [hW1]; exact alloc_size _ _
  have NX := Lib.hid (show Nums .u8 W1 W1.heap.size (some ⟨w.heap.size, 0, none⟩) 2 kX by
    refine ⟨rfl, fun _ => ⟨_, 0, rfl, by rw [e1]; exact Nat.lt_succ_self _, fun i hi => ?_⟩⟩
    rw [hW1, cell_of_row _ w.heap.size (0 + i) _ _ (2, 3) (heap_alloc_new w _)]
    rcases (show i = 0 ∨ i = 1 by omega) with rfl | rfl <;> rfl)
  have HB1 := Lib.hid (show Below w.heap.size w W1 by rw [hW1]; exact alloc_below _ _)
  rw [← hW1] at hcv
  obtain ⟨A, hA⟩ : ∃ A : Option Addr, A = some ⟨w.heap.size, 0, none⟩ := ⟨_, rfl⟩
  have KB := Lib.hid (kPk_built A 2 2)
  have UI := Lib.hid (pkC kPk_ok A 2 2).info
  have ON := Lib.hid (pkt_one kPk A 2 2)
  have ZI := Lib.hid (show (pktV zPkt none 0 0).size = (pktV kPk A 2 2).size by rw [(pkC zPkt_ok none 0 0).size, (pkC kPk_ok A 2 2).size])
  have LC := Lib.hid (fun w' (h : Below W1.heap.size W1 w') => clay_any kPk A 2 2 kX w' kPk_ok ((hA ▸ NX.out).below h |>.more h.size) kX_byte (by decide) (fun _ => by decide))
  have eE : layE kPk 2 = 0 := by unfold layE; rw [if_pos kPk_may]
  rw [eE] at LC
  have LC : Hid (∀ w' (h : Below W1.heap.size W1 w'), Calls Try.prog 9 #[.agg (pktV kPk A 2 2)] w' (OwnE w' kB 0)) := Lib.hid LC.out
  have PC := Lib.hid (fun w' A n c (hb : Nums .u8 w' w'.heap.size A n kB) (hn : n ≤ 9000) => (show Calls Try.prog 15 #[.slice A n c] w' (fun e w'' => ∃ A n c, e = .returned (.tuple #[.agg (pktV kPk A n c), .int .i64 0]) ∧ Nums .u8 w'' w''.heap.size A n kX ∧ Below w'.heap.size w' w'') by
    have h := cparse_any A n c kB w' hb kB_byte hn
    obtain ⟨h1, h2, h3⟩ := kB_read
    unfold PsR psP psX at h
    rw [h1, h2, h3] at h
    exact h))
  have HC := Lib.hid (fun w' A n c (hb : Nums .u8 w' w'.heap.size A n kB) (hn : n ≤ 9000) (hcap : n ≤ c ∧ c ≤ 9223372036854775807) => (show Calls Try.prog 16 #[.slice A n c] w' (fun e w'' => ∃ A n c, e = .returned (.tuple #[.slice A n c, .int .i64 0]) ∧ Nums .u8 w'' w''.heap.size A n (hpL kB) ∧ Below w'.heap.size w' w'') by
    have h := chop_any A n c kB w' hb kB_byte hn hcap.1 hcap.2
    unfold HpR hpX at h
    rw [kB_hop] at h
    exact h))
  have SC := Lib.hid (fun w' B m d (hx : Nums .u8 w' w'.heap.size A 2 kX) (hy : Nums .u8 w' w'.heap.size B m kX) => (show Calls Try.prog 13 #[.agg (pktV kPk A 2 2), .agg (pktV kPk B m d)] w' (Ret w' (.bool true)) by
    have h := csame_any kPk kPk A B 2 2 m d kX kX w' kPk_ok kPk_ok hx hy kX_byte kX_byte
    rw [sameB_iff.2 ⟨rfl, rfl⟩] at h
    exact h))
  obtain ⟨_, hl, h8⟩ := kH
  have HL := Lib.hid hl
  have H8 := Lib.hid h8
  have BL := Lib.hid kB_len
  have PK := Lib.hid (fun B m d => And.intro (pkC kPk_ok B m d).info (And.intro (show (pktV zPkt none 0 0).size = (pktV kPk B m d).size by rw [(pkC zPkt_ok none 0 0).size, (pkC kPk_ok B m d).size]) (pkt_one kPk B m d)))
  have kH8 : ∀ (w' : World) (A : Option Addr) (n : Nat), Nums .u8 w' w'.heap.size A n (hpL kB) → n = 22 ∧ ∃ b o, A = some ⟨b, o, none⟩ ∧ w'.cell? ⟨b, o + 8, none⟩ = some (.int .u8 1) := fun w' A n h => by
    have e := h.len
    rw [HL.out] at e
    obtain ⟨b, o, e2, _, hc⟩ := h.cell (i := 8) (by omega)
    rw [H8.out] at hc
    exact ⟨e.symm, b, o, e2, hc⟩
  have KH8 := Lib.hid kH8
  clear kH8
  generalize hpL kB = HX at *
  generalize kB = KBs at *
  generalize hZ : pktV zPkt none 0 0 = Z at *
  have HA := Lib.hid hA
  generalize hCP : pktV kPk A 2 2 = CP at *
  have HN1 := Lib.hid (show (W1.alloc (.cells Z 28)).heap[W1.heap.size]? = some (.cells Z 28 (0, 0)) from heap_alloc_new _ _)
  clear hl h8 eE hZ hA hW1 e1 hCP
  go_enter Try.func8, Try.ntmps8
  go_upto_region 2 with (first
    | (refine wpList_builtN rfl 28 _ rfl [(2, .int .u8 6), (3, .int .u8 2), (8, .slice A 2 2)] (by rw [HA.out]; kernel_rfl) CP KB.out ?_)
    | (refine wpList_store_row rfl 28 (.tmp 1) (.tmp 10) rfl W1.heap.size CP rfl rfl _ _ HN1.out UI.out ZI.out ON.out ?_))
  rw [World.setRow_alloc_new]
  have HB_W2 := Lib.hid (show Below w.heap.size w (W1.alloc (.cells CP 28)) from HB1.out.trans ((alloc_below _ _).mono HB1.out.size))
  have HC_W2 := Lib.hid (show Below W1.heap.size W1 (W1.alloc (.cells CP 28)) from alloc_below _ _)
  have RP_W2 := Lib.hid (show (W1.alloc (.cells CP 28)).heap[W1.heap.size]? = some (.cells CP 28 (0, 0)) from heap_alloc_new _ _)
  have NX2 := Lib.hid (show Nums .u8 (W1.alloc (.cells CP 28)) (W1.alloc (.cells CP 28)).heap.size A 2 kX by rw [HA.out]; exact (NX.out.below (alloc_below _ _)).more (alloc_below _ _).size)
  clear HN1 hcv
  generalize hg1 : W1.heap.size = g1 at *
  generalize W1.alloc (.cells CP 28) = W2 at *
  clear hg1 NX
  go_upto_region 3 with (first
    | (refine wpList_load_rowG (by kernel_rfl) 28 (.tmp 1) rfl g1 (by kernel_rfl) _ _ _ _ RP_W2.out Try.underlying28 rfl UI.out ?_)
    | (go_at_call 9; (refine (LC.out _ HC_W2.out).mono ?_); rintro e W3 ⟨Ab, nb, cb, rfl, Ob, BB⟩
       have hnb := Ob.len
       rw [BL.out] at hnb
       subst hnb
       have Nb := Lib.hid Ob.nums
       have CAPb := Lib.hid (own_cap Ob)
       have HB_W3 := Lib.hid (HB_W2.out.trans (BB.mono HB_W2.out.size))
       have RP_W3 := Lib.hid (show W3.heap[g1]? = some (.cells CP 28 (0, 0)) by rw [BB.block _ (lt_of_row RP_W2.out)]; exact RP_W2.out)
       have NX3 := Lib.hid ((NX2.out.below BB).more BB.size)
       clear BB Ob NX2 RP_W2 HB_W2 HC_W2))
  go_upto_region 4 with (first
    | (go_at_call 15; (refine (PC.out _ _ _ _ Nb.out (by decide)).mono ?_); rintro e v4 ⟨Aq, nq, cq, rfl, Nq, BB⟩
       have PQ := Lib.hid (PK.out Aq nq cq)
       have NQ4 := Lib.hid Nq
       have Nb4 := Lib.hid ((Nb.out.below BB).more BB.size)
       have HB_v4 := Lib.hid (HB_W3.out.trans (BB.mono HB_W3.out.size))
       have RP_v4 := Lib.hid (show v4.heap[g1]? = some (.cells CP 28 (0, 0)) by rw [BB.block _ (lt_of_row RP_W3.out)]; exact RP_W3.out)
       have NX4 := Lib.hid ((NX3.out.below BB).more BB.size)
       have HN_v4 := Lib.hid (show (v4.alloc (.cells Z 28)).heap[v4.heap.size]? = some (.cells Z 28 (0, 0)) from heap_alloc_new _ _)
       clear BB Nq NX3 RP_W3 HB_W3 Nb)
    | (refine wpList_store_row rfl 28 (.tmp 4) (.tmp 19) rfl v4.heap.size (pktV kPk Aq nq cq) rfl rfl _ _ HN_v4.out PQ.out.1 PQ.out.2.1 PQ.out.2.2 ?_))
  rw [World.setRow_alloc_new]
  have HB_W5 := Lib.hid (show Below w.heap.size w (v4.alloc (.cells (pktV kPk Aq nq cq) 28)) from HB_v4.out.trans ((alloc_below _ _).mono HB_v4.out.size))
  have BA := Lib.hid (alloc_below v4 (.cells (pktV kPk Aq nq cq) 28))
  have RP_W5 := Lib.hid (show (v4.alloc (.cells (pktV kPk Aq nq cq) 28)).heap[g1]? = some (.cells CP 28 (0, 0)) by rw [(alloc_below _ _).block _ (lt_of_row RP_v4.out)]; exact RP_v4.out)
  have RQ_W5 := Lib.hid (show (v4.alloc (.cells (pktV kPk Aq nq cq) 28)).heap[v4.heap.size]? = some (.cells (pktV kPk Aq nq cq) 28 (0, 0)) from heap_alloc_new _ _)
  have NX5 := Lib.hid ((NX4.out.below BA.out).more BA.out.size)
  have NQ5 := Lib.hid ((NQ4.out.below BA.out).more BA.out.size)
  have Nb5 := Lib.hid ((Nb4.out.below BA.out).more BA.out.size)
  clear HB_v4 BA RP_v4 NX4 NQ4 Nb4 HN_v4
  generalize v4.heap.size = g2 at *
  generalize v4.alloc (.cells (pktV kPk Aq nq cq) 28) = W5 at *
  go_upto_region 5 with (first
    | (go_at_call 16; (refine (HC.out _ _ _ _ Nb5.out (by decide) CAPb.out).mono ?_); rintro e W6 ⟨Ah, nh, ch, rfl, Nh, BB⟩
       obtain ⟨hnh, bh, oh, hAh, ch8⟩ := KH8.out _ _ _ Nh
       subst hnh
       subst hAh
       have HB_W6 := Lib.hid (HB_W5.out.trans (BB.mono HB_W5.out.size))
       have RP_W6 := Lib.hid (show W6.heap[g1]? = some (.cells CP 28 (0, 0)) by rw [BB.block _ (lt_of_row RP_W5.out)]; exact RP_W5.out)
       have RQ_W6 := Lib.hid (show W6.heap[g2]? = some (.cells (pktV kPk Aq nq cq) 28 (0, 0)) by rw [BB.block _ (lt_of_row RQ_W5.out)]; exact RQ_W5.out)
       have S6 := Lib.hid (SC.out _ _ _ cq ((NX5.out.below BB).more BB.size) ((NQ5.out.below BB).more BB.size))
       have C8 := Lib.hid ch8
       clear BB Nh NX5 NQ5 Nb5 RP_W5 RQ_W5 HB_W5 ch8))
  generalize pktV kPk Aq nq cq = CQ at *
  go_wp2_with (first
    | (refine wpList_load_rowG (by kernel_rfl) 28 (.tmp 1) rfl g1 (by kernel_rfl) _ _ _ _ RP_W6.out Try.underlying28 rfl UI.out ?_)
    | (refine wpList_load_rowG (by kernel_rfl) 28 (.tmp 4) rfl g2 (by kernel_rfl) _ _ _ _ RQ_W6.out Try.underlying28 rfl PQ.out.1 ?_)
    | (go_at_call 13; (refine S6.out.mono ?_); rintro e W7 ⟨rfl, BB⟩
       have HB_W7 := Lib.hid (HB_W6.out.trans (BB.mono HB_W6.out.size))
       have k8 := BB.cell (p := ⟨bh, oh + 8, none⟩) (by have := World.block_lt_of_cell? _ _ C8.out; exact this)
       rw [C8.out] at k8
       clear BB))
  go_ret
  exact ⟨rfl, HB_W7.out⟩
end Go.Proofs.Ytmedccfekfnmlaa.pkC

/-
  Whether two packets are the same: rsame_any.
-/
namespace Go.Proofs.Ytmedccfekfnmlaa.pkC
open Go.ChangeShapes Go.WideShapes Go.ChangeAt Go.RowKit
open Go.Proofs.Ytmedccfekfnmlaa.memC Go.Proofs.Ytmedccfekfnmlaa.genC Go.Proofs.Ytmedccfekfnmlaa.butC Go.Proofs.Ytmedccfekfnmlaa.freeC Go.Proofs.Ytmedccfekfnmlaa.adC
set_option linter.unusedVariables false
set_option maxRecDepth 100000 in
set_option maxHeartbeats 4000000 in
theorem rsame_any (p q : Pkt) (A B : Option Addr) (n c m d : Nat) (xs ys : List Int) (w : World) (hp : p.Ok) (hq : q.Ok) (hx : Nums .u8 w w.heap.size A n xs) (hy : Nums .u8 w w.heap.size B m ys) (yx : ∀ x ∈ xs, Byte x) (yy : ∀ x ∈ ys, Byte x) :
    Calls Try.prog 14 #[.agg (pktV p A n c), .agg (pktV q B m d)] w (Ret w (.bool (sameB p xs q ys))) := by
  have e1 : (w.alloc (.cells (pktV p A n c) 28)).heap.size = w.heap.size + 1 := alloc_size _ _
  obtain ⟨W, hW⟩ : ∃ W, W = (w.alloc (.cells (pktV p A n c) 28)).alloc (.cells (pktV q B m d) 28) := ⟨_, rfl⟩
  have R0 : W.heap[w.heap.size]? = some (.cells (pktV p A n c) 28 (0, 0)) := by rw [hW, Below.block (alloc_below _ _) _ (by rw [e1]; omega)]; exact heap_alloc_new w _
  have R1 : W.heap[w.heap.size + 1]? = some (.cells (pktV q B m d) 28 (0, 0)) := by rw [hW, ← e1]; exact heap_alloc_new _ _
  have HB := Lib.hid (show Below w.heap.size w W by rw [hW]; exact ((Below.refl _ _).alloc (Nat.le_refl _) _).alloc (by simp) _)
  have c0 := pkC hp A n c
  have c1 := pkC hq B m d
  have EQ0 := Lib.hid (fun w' => eqa p.s q.s p.a q.a hp.la hq.la w')
  have EQ1 := Lib.hid (fun w' => eqa p.t q.t p.b q.b hp.lb hq.lb w')
  rw [← adrC_arr, ← adrC_arr] at EQ0 EQ1
  have IA := Lib.hid (adrC_info (s := p.s) hp.la)
  have IB := Lib.hid (adrC_info (s := q.s) hq.la)
  have IC := Lib.hid (adrC_info (s := p.t) hp.lb)
  have ID := Lib.hid (adrC_info (s := q.t) hq.lb)
  have SA := Lib.hid (PkC.part R0 c0.src)
  have SB := Lib.hid (PkC.part R1 c1.src)
  have SC := Lib.hid (PkC.part R0 c0.dst)
  have SD := Lib.hid (PkC.part R1 c1.dst)
  have k0 := PkC.cell R0 c0.proto
  have j0 := PkC.cell R1 c1.proto
  have k1 := PkC.cell R0 c0.hops
  have j1 := PkC.cell R1 c1.hops
  have k2 := PkC.cell R0 c0.id
  have j2 := PkC.cell R1 c1.id
  have k3 := PkC.cell R0 c0.whole
  have j3 := PkC.cell R1 c1.whole
  have k4 := PkC.cell R0 c0.more
  have j4 := PkC.cell R1 c1.more
  have k5 := PkC.cell R0 c0.off
  have j5 := PkC.cell R1 c1.off
  have k6 := PkC.cell R0 c0.load
  have j6 := PkC.cell R1 c1.load
  have hcx : (convert 26 9 (.slice A n c)).run Try.prog W = .ok (.string (strOfNums xs)) W := run_string (hx.below HB.out) c 26 5 9 Try.underlying26 Try.underlying5 Try.underlying9
  have hcy : (convert 26 9 (.slice B m d)).run Try.prog W = .ok (.string (strOfNums ys)) W := run_string (hy.below HB.out) d 26 5 9 Try.underlying26 Try.underlying5 Try.underlying9
  have HS : ((strOfNums xs).toList == (strOfNums ys).toList) = decide (xs = ys) := by
    rw [str_eqb yx yy]
    by_cases h : xs = ys
    · subst h; rw [lexL_self]; simp
    · rw [decide_eq_false h]; exact beq_eq_false_iff_ne.2 fun e => h (lexL_zero _ _ e)
  generalize strOfNums xs = X at *
  generalize strOfNums ys = Y at *
  obtain ⟨V, hV⟩ : ∃ V, V = sameB p xs q ys := ⟨_, rfl⟩
  rw [← hV]
  unfold sameB at hV
  generalize decide (xs = ys) = e8 at *
  generalize decide (p.s = q.s ∧ p.a = q.a) = e0 at *
  generalize decide (p.t = q.t ∧ p.b = q.b) = e1' at *
  generalize adrC p.s p.a = LA at *
  generalize adrC q.s q.a = LB at *
  generalize adrC p.t p.b = LC at *
  generalize adrC q.t q.b = LD at *
  generalize pktV p A n c = CP at *
  generalize pktV q B m d = CQ at *
  generalize p.proto = proto1 at *
  generalize q.proto = proto2 at *
  generalize p.hops = hops1 at *
  generalize q.hops = hops2 at *
  generalize p.id = id1 at *
  generalize q.id = id2 at *
  generalize p.whole = whole1 at *
  generalize q.whole = whole2 at *
  generalize p.more = more1 at *
  generalize q.more = more2 at *
  generalize p.off = off1 at *
  generalize q.off = off2 at *
  have HE := Lib.hid HS
  have HV := Lib.hid hV
  clear hp hq hx hy yx yy c0 c1 R0 R1 e1 HS hV
  go_enter Try.func14, Try.ntmps14
  go_upto_region 1 with fail
  rw [← hW]
  clear hW
  cases e0
  · have hv := Lib.hid (show V = false by rw [HV.out]; simp)
    go_wp2_with (first
      | go_skip
      | (with_reducible refine atC.at_load 24 5 ?_; refine wpList_load_partG (by kernel_rfl) 24 (.tmp 5) (by kernel_rfl) (w.heap.size) 0 (by kernel_rfl) LA _ SA.out Try.underlying24 rfl IA.out ?_)
      | (with_reducible refine atC.at_load 24 7 ?_; refine wpList_load_partG (by kernel_rfl) 24 (.tmp 7) (by kernel_rfl) (w.heap.size + 1) 0 (by kernel_rfl) LB _ SB.out Try.underlying24 rfl IB.out ?_)
      | (with_reducible refine atC.at_bin .eql 24 ?_; refine wpList_runG (by kernel_rfl) _ (eq_run (T := 24) (s := 6) (x := 8) rfl (by kernel_rfl) (by kernel_rfl) (EQ0.out _) guard_addr) ?_)
      | (with_reducible refine atC.at_load 24 11 ?_; refine wpList_load_partG (by kernel_rfl) 24 (.tmp 11) (by kernel_rfl) (w.heap.size) 17 (by kernel_rfl) LC _ SC.out Try.underlying24 rfl IC.out ?_)
      | (with_reducible refine atC.at_load 24 13 ?_; refine wpList_load_partG (by kernel_rfl) 24 (.tmp 13) (by kernel_rfl) (w.heap.size + 1) 17 (by kernel_rfl) LD _ SD.out Try.underlying24 rfl ID.out ?_)
      | (with_reducible refine atC.at_bin .eql 24 ?_; refine wpList_runG (by kernel_rfl) _ (eq_run (T := 24) (s := 12) (x := 14) rfl (by kernel_rfl) (by kernel_rfl) (EQ1.out _) guard_addr) ?_)
      | (with_reducible refine atC.at_bin .eql 9 ?_; refine wpList_runG (by kernel_rfl) _ (seq_run (T := 9) (S := X) (S' := Y) rfl (by kernel_rfl) (by kernel_rfl) HE.out) ?_))
    go_ret
    exact ⟨ret_bool hv.out.symm, HB.out⟩
  · cases e1'
    · have hv := Lib.hid (show V = false by rw [HV.out]; simp)
      go_wp2_with (first
        | go_skip
        | (with_reducible refine atC.at_load 24 5 ?_; refine wpList_load_partG (by kernel_rfl) 24 (.tmp 5) (by kernel_rfl) (w.heap.size) 0 (by kernel_rfl) LA _ SA.out Try.underlying24 rfl IA.out ?_)
        | (with_reducible refine atC.at_load 24 7 ?_; refine wpList_load_partG (by kernel_rfl) 24 (.tmp 7) (by kernel_rfl) (w.heap.size + 1) 0 (by kernel_rfl) LB _ SB.out Try.underlying24 rfl IB.out ?_)
        | (with_reducible refine atC.at_bin .eql 24 ?_; refine wpList_runG (by kernel_rfl) _ (eq_run (T := 24) (s := 6) (x := 8) rfl (by kernel_rfl) (by kernel_rfl) (EQ0.out _) guard_addr) ?_)
        | (with_reducible refine atC.at_load 24 11 ?_; refine wpList_load_partG (by kernel_rfl) 24 (.tmp 11) (by kernel_rfl) (w.heap.size) 17 (by kernel_rfl) LC _ SC.out Try.underlying24 rfl IC.out ?_)
        | (with_reducible refine atC.at_load 24 13 ?_; refine wpList_load_partG (by kernel_rfl) 24 (.tmp 13) (by kernel_rfl) (w.heap.size + 1) 17 (by kernel_rfl) LD _ SD.out Try.underlying24 rfl ID.out ?_)
        | (with_reducible refine atC.at_bin .eql 24 ?_; refine wpList_runG (by kernel_rfl) _ (eq_run (T := 24) (s := 12) (x := 14) rfl (by kernel_rfl) (by kernel_rfl) (EQ1.out _) guard_addr) ?_)
        | (with_reducible refine atC.at_bin .eql 9 ?_; refine wpList_runG (by kernel_rfl) _ (seq_run (T := 9) (S := X) (S' := Y) rfl (by kernel_rfl) (by kernel_rfl) HE.out) ?_))
      go_ret
      exact ⟨ret_bool hv.out.symm, HB.out⟩
    · by_cases h2 : proto1 = proto2
      · subst h2
        by_cases h3 : hops1 = hops2
        · subst h3
          by_cases h4 : id1 = id2
          · subst h4
            cases hb5 : (whole1 == whole2)
            · have h5 : ¬ whole1 = whole2 := by simpa using hb5
              have hv := Lib.hid (show V = false by rw [HV.out]; simp [h5])
              clear h5
              go_wp2_with (first
                | go_skip
                | (with_reducible refine atC.at_load 24 5 ?_; refine wpList_load_partG (by kernel_rfl) 24 (.tmp 5) (by kernel_rfl) (w.heap.size) 0 (by kernel_rfl) LA _ SA.out Try.underlying24 rfl IA.out ?_)
                | (with_reducible refine atC.at_load 24 7 ?_; refine wpList_load_partG (by kernel_rfl) 24 (.tmp 7) (by kernel_rfl) (w.heap.size + 1) 0 (by kernel_rfl) LB _ SB.out Try.underlying24 rfl IB.out ?_)
                | (with_reducible refine atC.at_bin .eql 24 ?_; refine wpList_runG (by kernel_rfl) _ (eq_run (T := 24) (s := 6) (x := 8) rfl (by kernel_rfl) (by kernel_rfl) (EQ0.out _) guard_addr) ?_)
                | (with_reducible refine atC.at_load 24 11 ?_; refine wpList_load_partG (by kernel_rfl) 24 (.tmp 11) (by kernel_rfl) (w.heap.size) 17 (by kernel_rfl) LC _ SC.out Try.underlying24 rfl IC.out ?_)
                | (with_reducible refine atC.at_load 24 13 ?_; refine wpList_load_partG (by kernel_rfl) 24 (.tmp 13) (by kernel_rfl) (w.heap.size + 1) 17 (by kernel_rfl) LD _ SD.out Try.underlying24 rfl ID.out ?_)
                | (with_reducible refine atC.at_bin .eql 24 ?_; refine wpList_runG (by kernel_rfl) _ (eq_run (T := 24) (s := 12) (x := 14) rfl (by kernel_rfl) (by kernel_rfl) (EQ1.out _) guard_addr) ?_)
                | (with_reducible refine atC.at_bin .eql 9 ?_; refine wpList_runG (by kernel_rfl) _ (seq_run (T := 9) (S := X) (S' := Y) rfl (by kernel_rfl) (by kernel_rfl) HE.out) ?_))
              go_ret
              exact ⟨ret_bool hv.out.symm, HB.out⟩
            · obtain rfl : whole1 = whole2 := by simpa using hb5
              cases hb6 : (more1 == more2)
              · have h6 : ¬ more1 = more2 := by simpa using hb6
                have hv := Lib.hid (show V = false by rw [HV.out]; simp [h6])
                clear h6
                go_wp2_with (first
                  | go_skip
                  | (with_reducible refine atC.at_load 24 5 ?_; refine wpList_load_partG (by kernel_rfl) 24 (.tmp 5) (by kernel_rfl) (w.heap.size) 0 (by kernel_rfl) LA _ SA.out Try.underlying24 rfl IA.out ?_)
                  | (with_reducible refine atC.at_load 24 7 ?_; refine wpList_load_partG (by kernel_rfl) 24 (.tmp 7) (by kernel_rfl) (w.heap.size + 1) 0 (by kernel_rfl) LB _ SB.out Try.underlying24 rfl IB.out ?_)
                  | (with_reducible refine atC.at_bin .eql 24 ?_; refine wpList_runG (by kernel_rfl) _ (eq_run (T := 24) (s := 6) (x := 8) rfl (by kernel_rfl) (by kernel_rfl) (EQ0.out _) guard_addr) ?_)
                  | (with_reducible refine atC.at_load 24 11 ?_; refine wpList_load_partG (by kernel_rfl) 24 (.tmp 11) (by kernel_rfl) (w.heap.size) 17 (by kernel_rfl) LC _ SC.out Try.underlying24 rfl IC.out ?_)
                  | (with_reducible refine atC.at_load 24 13 ?_; refine wpList_load_partG (by kernel_rfl) 24 (.tmp 13) (by kernel_rfl) (w.heap.size + 1) 17 (by kernel_rfl) LD _ SD.out Try.underlying24 rfl ID.out ?_)
                  | (with_reducible refine atC.at_bin .eql 24 ?_; refine wpList_runG (by kernel_rfl) _ (eq_run (T := 24) (s := 12) (x := 14) rfl (by kernel_rfl) (by kernel_rfl) (EQ1.out _) guard_addr) ?_)
                  | (with_reducible refine atC.at_bin .eql 9 ?_; refine wpList_runG (by kernel_rfl) _ (seq_run (T := 9) (S := X) (S' := Y) rfl (by kernel_rfl) (by kernel_rfl) HE.out) ?_))
                go_ret
                exact ⟨ret_bool hv.out.symm, HB.out⟩
              · obtain rfl : more1 = more2 := by simpa using hb6
                by_cases h7 : off1 = off2
                · subst h7
                  cases e8
                  · have hv := Lib.hid (show V = false by rw [HV.out]; simp)
                    go_wp2_with (first
                      | go_skip
                      | (with_reducible refine atC.at_load 24 5 ?_; refine wpList_load_partG (by kernel_rfl) 24 (.tmp 5) (by kernel_rfl) (w.heap.size) 0 (by kernel_rfl) LA _ SA.out Try.underlying24 rfl IA.out ?_)
                      | (with_reducible refine atC.at_load 24 7 ?_; refine wpList_load_partG (by kernel_rfl) 24 (.tmp 7) (by kernel_rfl) (w.heap.size + 1) 0 (by kernel_rfl) LB _ SB.out Try.underlying24 rfl IB.out ?_)
                      | (with_reducible refine atC.at_bin .eql 24 ?_; refine wpList_runG (by kernel_rfl) _ (eq_run (T := 24) (s := 6) (x := 8) rfl (by kernel_rfl) (by kernel_rfl) (EQ0.out _) guard_addr) ?_)
                      | (with_reducible refine atC.at_load 24 11 ?_; refine wpList_load_partG (by kernel_rfl) 24 (.tmp 11) (by kernel_rfl) (w.heap.size) 17 (by kernel_rfl) LC _ SC.out Try.underlying24 rfl IC.out ?_)
                      | (with_reducible refine atC.at_load 24 13 ?_; refine wpList_load_partG (by kernel_rfl) 24 (.tmp 13) (by kernel_rfl) (w.heap.size + 1) 17 (by kernel_rfl) LD _ SD.out Try.underlying24 rfl ID.out ?_)
                      | (with_reducible refine atC.at_bin .eql 24 ?_; refine wpList_runG (by kernel_rfl) _ (eq_run (T := 24) (s := 12) (x := 14) rfl (by kernel_rfl) (by kernel_rfl) (EQ1.out _) guard_addr) ?_)
                      | (with_reducible refine atC.at_bin .eql 9 ?_; refine wpList_runG (by kernel_rfl) _ (seq_run (T := 9) (S := X) (S' := Y) rfl (by kernel_rfl) (by kernel_rfl) HE.out) ?_))
                    go_ret
                    exact ⟨ret_bool hv.out.symm, HB.out⟩
                  · have hv := Lib.hid (show V = true by rw [HV.out]; simp)
                    go_wp2_with (first
                      | go_skip
                      | (with_reducible refine atC.at_load 24 5 ?_; refine wpList_load_partG (by kernel_rfl) 24 (.tmp 5) (by kernel_rfl) (w.heap.size) 0 (by kernel_rfl) LA _ SA.out Try.underlying24 rfl IA.out ?_)
                      | (with_reducible refine atC.at_load 24 7 ?_; refine wpList_load_partG (by kernel_rfl) 24 (.tmp 7) (by kernel_rfl) (w.heap.size + 1) 0 (by kernel_rfl) LB _ SB.out Try.underlying24 rfl IB.out ?_)
                      | (with_reducible refine atC.at_bin .eql 24 ?_; refine wpList_runG (by kernel_rfl) _ (eq_run (T := 24) (s := 6) (x := 8) rfl (by kernel_rfl) (by kernel_rfl) (EQ0.out _) guard_addr) ?_)
                      | (with_reducible refine atC.at_load 24 11 ?_; refine wpList_load_partG (by kernel_rfl) 24 (.tmp 11) (by kernel_rfl) (w.heap.size) 17 (by kernel_rfl) LC _ SC.out Try.underlying24 rfl IC.out ?_)
                      | (with_reducible refine atC.at_load 24 13 ?_; refine wpList_load_partG (by kernel_rfl) 24 (.tmp 13) (by kernel_rfl) (w.heap.size + 1) 17 (by kernel_rfl) LD _ SD.out Try.underlying24 rfl ID.out ?_)
                      | (with_reducible refine atC.at_bin .eql 24 ?_; refine wpList_runG (by kernel_rfl) _ (eq_run (T := 24) (s := 12) (x := 14) rfl (by kernel_rfl) (by kernel_rfl) (EQ1.out _) guard_addr) ?_)
                      | (with_reducible refine atC.at_bin .eql 9 ?_; refine wpList_runG (by kernel_rfl) _ (seq_run (T := 9) (S := X) (S' := Y) rfl (by kernel_rfl) (by kernel_rfl) HE.out) ?_))
                    go_ret
                    exact ⟨ret_bool hv.out.symm, HB.out⟩
                · have hq7 : (off1 == off2) = false := beq_eq_false_iff_ne.2 h7
                  have hv := Lib.hid (show V = false by rw [HV.out]; simp [h7])
                  go_wp2_with (first
                    | go_skip
                    | (with_reducible refine atC.at_load 24 5 ?_; refine wpList_load_partG (by kernel_rfl) 24 (.tmp 5) (by kernel_rfl) (w.heap.size) 0 (by kernel_rfl) LA _ SA.out Try.underlying24 rfl IA.out ?_)
                    | (with_reducible refine atC.at_load 24 7 ?_; refine wpList_load_partG (by kernel_rfl) 24 (.tmp 7) (by kernel_rfl) (w.heap.size + 1) 0 (by kernel_rfl) LB _ SB.out Try.underlying24 rfl IB.out ?_)
                    | (with_reducible refine atC.at_bin .eql 24 ?_; refine wpList_runG (by kernel_rfl) _ (eq_run (T := 24) (s := 6) (x := 8) rfl (by kernel_rfl) (by kernel_rfl) (EQ0.out _) guard_addr) ?_)
                    | (with_reducible refine atC.at_load 24 11 ?_; refine wpList_load_partG (by kernel_rfl) 24 (.tmp 11) (by kernel_rfl) (w.heap.size) 17 (by kernel_rfl) LC _ SC.out Try.underlying24 rfl IC.out ?_)
                    | (with_reducible refine atC.at_load 24 13 ?_; refine wpList_load_partG (by kernel_rfl) 24 (.tmp 13) (by kernel_rfl) (w.heap.size + 1) 17 (by kernel_rfl) LD _ SD.out Try.underlying24 rfl ID.out ?_)
                    | (with_reducible refine atC.at_bin .eql 24 ?_; refine wpList_runG (by kernel_rfl) _ (eq_run (T := 24) (s := 12) (x := 14) rfl (by kernel_rfl) (by kernel_rfl) (EQ1.out _) guard_addr) ?_)
                    | (with_reducible refine atC.at_bin .eql 9 ?_; refine wpList_runG (by kernel_rfl) _ (seq_run (T := 9) (S := X) (S' := Y) rfl (by kernel_rfl) (by kernel_rfl) HE.out) ?_))
                  go_ret
                  exact ⟨ret_bool hv.out.symm, HB.out⟩
          · have hq4 : (id1 == id2) = false := beq_eq_false_iff_ne.2 h4
            have hv := Lib.hid (show V = false by rw [HV.out]; simp [h4])
            go_wp2_with (first
              | go_skip
              | (with_reducible refine atC.at_load 24 5 ?_; refine wpList_load_partG (by kernel_rfl) 24 (.tmp 5) (by kernel_rfl) (w.heap.size) 0 (by kernel_rfl) LA _ SA.out Try.underlying24 rfl IA.out ?_)
              | (with_reducible refine atC.at_load 24 7 ?_; refine wpList_load_partG (by kernel_rfl) 24 (.tmp 7) (by kernel_rfl) (w.heap.size + 1) 0 (by kernel_rfl) LB _ SB.out Try.underlying24 rfl IB.out ?_)
              | (with_reducible refine atC.at_bin .eql 24 ?_; refine wpList_runG (by kernel_rfl) _ (eq_run (T := 24) (s := 6) (x := 8) rfl (by kernel_rfl) (by kernel_rfl) (EQ0.out _) guard_addr) ?_)
              | (with_reducible refine atC.at_load 24 11 ?_; refine wpList_load_partG (by kernel_rfl) 24 (.tmp 11) (by kernel_rfl) (w.heap.size) 17 (by kernel_rfl) LC _ SC.out Try.underlying24 rfl IC.out ?_)
              | (with_reducible refine atC.at_load 24 13 ?_; refine wpList_load_partG (by kernel_rfl) 24 (.tmp 13) (by kernel_rfl) (w.heap.size + 1) 17 (by kernel_rfl) LD _ SD.out Try.underlying24 rfl ID.out ?_)
              | (with_reducible refine atC.at_bin .eql 24 ?_; refine wpList_runG (by kernel_rfl) _ (eq_run (T := 24) (s := 12) (x := 14) rfl (by kernel_rfl) (by kernel_rfl) (EQ1.out _) guard_addr) ?_)
              | (with_reducible refine atC.at_bin .eql 9 ?_; refine wpList_runG (by kernel_rfl) _ (seq_run (T := 9) (S := X) (S' := Y) rfl (by kernel_rfl) (by kernel_rfl) HE.out) ?_))
            go_ret
            exact ⟨ret_bool hv.out.symm, HB.out⟩
        · have hq3 : (hops1 == hops2) = false := beq_eq_false_iff_ne.2 h3
          have hv := Lib.hid (show V = false by rw [HV.out]; simp [h3])
          go_wp2_with (first
            | go_skip
            | (with_reducible refine atC.at_load 24 5 ?_; refine wpList_load_partG (by kernel_rfl) 24 (.tmp 5) (by kernel_rfl) (w.heap.size) 0 (by kernel_rfl) LA _ SA.out Try.underlying24 rfl IA.out ?_)
            | (with_reducible refine atC.at_load 24 7 ?_; refine wpList_load_partG (by kernel_rfl) 24 (.tmp 7) (by kernel_rfl) (w.heap.size + 1) 0 (by kernel_rfl) LB _ SB.out Try.underlying24 rfl IB.out ?_)
            | (with_reducible refine atC.at_bin .eql 24 ?_; refine wpList_runG (by kernel_rfl) _ (eq_run (T := 24) (s := 6) (x := 8) rfl (by kernel_rfl) (by kernel_rfl) (EQ0.out _) guard_addr) ?_)
            | (with_reducible refine atC.at_load 24 11 ?_; refine wpList_load_partG (by kernel_rfl) 24 (.tmp 11) (by kernel_rfl) (w.heap.size) 17 (by kernel_rfl) LC _ SC.out Try.underlying24 rfl IC.out ?_)
            | (with_reducible refine atC.at_load 24 13 ?_; refine wpList_load_partG (by kernel_rfl) 24 (.tmp 13) (by kernel_rfl) (w.heap.size + 1) 17 (by kernel_rfl) LD _ SD.out Try.underlying24 rfl ID.out ?_)
            | (with_reducible refine atC.at_bin .eql 24 ?_; refine wpList_runG (by kernel_rfl) _ (eq_run (T := 24) (s := 12) (x := 14) rfl (by kernel_rfl) (by kernel_rfl) (EQ1.out _) guard_addr) ?_)
            | (with_reducible refine atC.at_bin .eql 9 ?_; refine wpList_runG (by kernel_rfl) _ (seq_run (T := 9) (S := X) (S' := Y) rfl (by kernel_rfl) (by kernel_rfl) HE.out) ?_))
          go_ret
          exact ⟨ret_bool hv.out.symm, HB.out⟩
      · have hq2 : (proto1 == proto2) = false := beq_eq_false_iff_ne.2 h2
        have hv := Lib.hid (show V = false by rw [HV.out]; simp [h2])
        go_wp2_with (first
          | go_skip
          | (with_reducible refine atC.at_load 24 5 ?_; refine wpList_load_partG (by kernel_rfl) 24 (.tmp 5) (by kernel_rfl) (w.heap.size) 0 (by kernel_rfl) LA _ SA.out Try.underlying24 rfl IA.out ?_)
          | (with_reducible refine atC.at_load 24 7 ?_; refine wpList_load_partG (by kernel_rfl) 24 (.tmp 7) (by kernel_rfl) (w.heap.size + 1) 0 (by kernel_rfl) LB _ SB.out Try.underlying24 rfl IB.out ?_)
          | (with_reducible refine atC.at_bin .eql 24 ?_; refine wpList_runG (by kernel_rfl) _ (eq_run (T := 24) (s := 6) (x := 8) rfl (by kernel_rfl) (by kernel_rfl) (EQ0.out _) guard_addr) ?_)
          | (with_reducible refine atC.at_load 24 11 ?_; refine wpList_load_partG (by kernel_rfl) 24 (.tmp 11) (by kernel_rfl) (w.heap.size) 17 (by kernel_rfl) LC _ SC.out Try.underlying24 rfl IC.out ?_)
          | (with_reducible refine atC.at_load 24 13 ?_; refine wpList_load_partG (by kernel_rfl) 24 (.tmp 13) (by kernel_rfl) (w.heap.size + 1) 17 (by kernel_rfl) LD _ SD.out Try.underlying24 rfl ID.out ?_)
          | (with_reducible refine atC.at_bin .eql 24 ?_; refine wpList_runG (by kernel_rfl) _ (eq_run (T := 24) (s := 12) (x := 14) rfl (by kernel_rfl) (by kernel_rfl) (EQ1.out _) guard_addr) ?_)
          | (with_reducible refine atC.at_bin .eql 9 ?_; refine wpList_runG (by kernel_rfl) _ (seq_run (T := 9) (S := X) (S' := Y) rfl (by kernel_rfl) (by kernel_rfl) HE.out) ?_))
        go_ret
        exact ⟨ret_bool hv.out.symm, HB.out⟩
end Go.Proofs.Ytmedccfekfnmlaa.pkC

/-
  The walk of IpfourLays.
-/
namespace Go.Proofs.Ytmedccfekfnmlaa.pkC
open Go.ChangeShapes Go.WideShapes Go.ChangeAt Go.RowKit
open Go.Proofs.Ytmedccfekfnmlaa.memC Go.Proofs.Ytmedccfekfnmlaa.genC Go.Proofs.Ytmedccfekfnmlaa.butC Go.Proofs.Ytmedccfekfnmlaa.freeC Go.Proofs.Ytmedccfekfnmlaa.adC
set_option linter.unusedVariables false
def farB (n : Nat) : Bool := decide (2000 < n) && decide (n ≤ 65515)
theorem far_may {p : Pkt} {n : Nat} (h : farB n = false) (hm : mayB p n = true) : n ≤ 9000 := by
  have h8 := (mayB_parts hm).2.2.2.2.2.2.2.1
  unfold farB at h
  by_cases h1 : 2000 < n
  · rw [decide_eq_true h1, decide_eq_true (by omega)] at h; cases h
  · omega
theorem far_any (A : Option Addr) (n c : Nat) (w : World) (hn : n ≤ 9223372036854775807) :
    Calls Try.prog 7 #[.slice A n c] w fun e w' => e = .returned (.bool (farB n)) ∧ w' = w := by
  by_cases h1 : 2000 < n
  · have q1 : (2000 : Int) < (n : Int) := by omega
    by_cases h2 : n ≤ 65515
    · have q2 : (n : Int) ≤ 65515 := by omega
      have hv : farB n = true := by unfold farB; simp [h1, h2]
      rw [hv]
      clear hv h1 h2
      go_enter Try.func7, Try.ntmps7
      go_wp2
      go_ret
      exact ⟨rfl, rfl⟩
    · have q2 : ¬ (n : Int) ≤ 65515 := by omega
      have q3 : decide ((n : Int) ≤ 65515) = false := decide_eq_false q2
      have hv : farB n = false := by unfold farB; simp [h2]
      rw [hv]
      clear hv h1 h2
      go_enter Try.func7, Try.ntmps7
      go_wp2
      go_ret
      exact ⟨rfl, rfl⟩
  · have q1 : ¬ (2000 : Int) < (n : Int) := by omega
    have q3 : decide ((2000 : Int) < (n : Int)) = false := decide_eq_false q1
    have hv : farB n = false := by unfold farB; simp [h1]
    rw [hv]
    clear hv h1
    go_enter Try.func7, Try.ntmps7
    go_wp2
    go_ret
    exact ⟨rfl, rfl⟩
theorem seq_self {P : Program} {o : Oper} {a : Act} {w : World} {T : TypeId} {s x : Operand} {S : ByteArray} {R : TypeId} (ho : o.op = .binOp .eql T s x R) (hs : a.eval s = .string S) (hx : a.eval x = .string S) : (execOp a.eval o).run P w = .ok (.value (.bool true)) w :=
  seq_run ho hs hx (by simp)
def iaV (g0 g1 : Nat) (CP CQ : Array Value) (A1 A2 : Option Addr) (n1 c1 n2 c2 : Nat) (er : Int) (my sm : Bool) (SB : ByteArray) : Nat → Value → World → Prop
  | 0, v, _ => v = .slice A1 n1 c1
  | 1, v, _ => v = .string SB
  | 2, v, _ => v = .slice A2 n2 c2
  | 3, v, _ => v = .string SB
  | 4, v, _ => v = .bool true
  | 5, v, _ => v = .bool true
  | 6, v, _ => v = .int .i64 er
  | 7, v, _ => v = .int .i64 er
  | 8, v, _ => v = .bool true
  | 9, v, _ => v = .bool true
  | 10, v, _ => v = .bool true
  | 11, v, _ => v = .agg CP
  | 12, v, _ => v = .bool my
  | 13, v, _ => v = .agg CP
  | 14, v, _ => v = .bool my
  | 15, v, _ => v = .bool true
  | 16, v, _ => v = .bool true
  | 17, v, _ => v = .bool true
  | 18, v, _ => v = .agg CP
  | 19, v, _ => v = .agg CQ
  | 20, v, _ => v = .bool sm
  | 21, v, _ => v = .agg CP
  | 22, v, _ => v = .agg CQ
  | 23, v, _ => v = .bool sm
  | 24, v, _ => v = .bool true
  | 25, v, _ => v = .bool true
  | 26, v, _ => v = .bool true
  | 27, v, _ => v = .agg CP
  | 28, v, _ => v = .agg CP
  | 29, v, _ => v = .bool true
  | 30, v, _ => v = .bool true
  | 31, v, _ => v = .bool true
  | 32, v, _ => v = .bool true
  | 33, v, _ => v = .bool true
  | 34, v, _ => v = .bool true
  | _, _, _ => True
theorem iaV.keep (g0 g1 : Nat) (CP CQ : Array Value) (A1 A2 : Option Addr) (n1 c1 n2 c2 : Nat) (er : Int) (my sm : Bool) (SB : ByteArray) (i : Nat) (v : Value) (w w' : World) (hb : Below w.heap.size w w') (h : iaV g0 g1 CP CQ A1 A2 n1 c1 n2 c2 er my sm SB i v w) : iaV g0 g1 CP CQ A1 A2 n1 c1 n2 c2 er my sm SB i v w' := by
  unfold iaV at h ⊢
  split at h <;> exact h
def iaT : List (Option Nat) := [none, none, none, none, some 34, none, none, none, none, none, none, none, none, none, none, none, none, none, none, none, none, none, none, none, none, none, none, none, some 0, some 1, some 2, some 3, some 4, some 5, some 6, some 7, some 8, some 9, some 10, some 11, some 12, some 13, some 14, some 15, some 16, some 17, some 18, some 19, some 20, some 21, some 22, some 23, some 24, some 25, some 26, some 27, some 28, some 29, some 30, some 31, some 32, some 33]
set_option maxRecDepth 100000 in
set_option maxHeartbeats 4000000 in
theorem lays_walk (p q : Pkt) (A B : Option Addr) (n c m d : Nat) (xs ys : List Int) (w : World) (hp : p.Ok) (hq : q.Ok) (hx : Nums .u8 w w.heap.size A n xs) (hy : Nums .u8 w w.heap.size B m ys) (yx : ∀ x ∈ xs, Byte x) (yy : ∀ x ∈ ys, Byte x)
    (hn : n ≤ 9223372036854775807) (hm : m ≤ 9223372036854775807) :
    Calls Try.prog 3 #[.agg (pktV p A n c), .agg (pktV q B m d)] w (Ret w (.bool true)) := by
  have e1 : (w.alloc (.cells (pktV p A n c) 28)).heap.size = w.heap.size + 1 := alloc_size _ _
  obtain ⟨W, hW⟩ : ∃ W, W = (w.alloc (.cells (pktV p A n c) 28)).alloc (.cells (pktV q B m d) 28) := ⟨_, rfl⟩
  have R0_W := Lib.hid (show W.heap[w.heap.size]? = some (.cells (pktV p A n c) 28 (0, 0)) by rw [hW, Below.block (alloc_below _ _) _ (by rw [e1]; omega)]; exact heap_alloc_new w _)
  have R1_W := Lib.hid (show W.heap[w.heap.size + 1]? = some (.cells (pktV q B m d) 28 (0, 0)) by rw [hW, ← e1]; exact heap_alloc_new _ _)
  have HB_W := Lib.hid (show Below w.heap.size w W by rw [hW]; exact ((Below.refl _ _).alloc (Nat.le_refl _) _).alloc (by simp) _)
  have k0 := PkC.cell R0_W.out (pkC hp A n c).load
  have k1 := PkC.cell R1_W.out (pkC hq B m d).load
  have IP := Lib.hid (pkC hp A n c).info
  have IQ := Lib.hid (pkC hq B m d).info
  have LC := Lib.hid (fun w' (h : Below w.heap.size w w') (hfar : farB n = false) => clay_any p A n c xs w' hp ((hx.below h).more h.size) yx hn (far_may hfar))
  have LD := Lib.hid (fun w' (h : Below w.heap.size w w') => rlay_any p A n c xs w' hp ((hx.below h).more h.size) hn)
  have F0 := Lib.hid (fun w' => far_any A n c w' hn)
  have F1 := Lib.hid (fun w' => far_any B m d w' hm)
  have CM := Lib.hid (fun w' => cmay_pkt p A n c w' hp hn)
  have DM := Lib.hid (fun w' => rmay_pkt p A n c w' hp hn)
  have CS0 := Lib.hid (fun w' (h : Below w.heap.size w w') => csame_any p q A B n c m d xs ys w' hp hq ((hx.below h).more h.size) ((hy.below h).more h.size) yx yy)
  have DS0 := Lib.hid (fun w' (h : Below w.heap.size w w') => rsame_any p q A B n c m d xs ys w' hp hq ((hx.below h).more h.size) ((hy.below h).more h.size) yx yy)
  have CT0 := Lib.hid (fun w' (h : Below w.heap.size w w') => (show Calls Try.prog 13 #[.agg (pktV p A n c), .agg (pktV p A n c)] w' (Ret w' (.bool true)) by
    have h2 := csame_any p p A A n c n c xs xs w' hp hp ((hx.below h).more h.size) ((hx.below h).more h.size) yx yx
    rw [sameB_iff.2 ⟨rfl, rfl⟩] at h2
    exact h2))
  have YB := Lib.hid (layL_byte hp (n := n) yx)
  generalize mayB p n = my at *
  generalize sameB p xs q ys = sm at *
  generalize layE p n = er at *
  obtain ⟨BS, hBS⟩ : ∃ L, L = layL p n xs := ⟨_, rfl⟩
  rw [← hBS] at LC LD YB
  generalize hf0 : farB n = f0 at *
  generalize hf1 : farB m = f1 at *
  generalize pktV p A n c = CP at *
  generalize pktV q B m d = CQ at *
  clear hp hq hx hy yx yy hBS hf0 hf1 e1
  go_enter Try.func3, Try.ntmps3
  go_upto_region 1 with fail
  rw [← hW]
  clear hW
  cases f0
  rotate_left
  · go_wp2_with (first
      | (go_at_call 7; (with_reducible refine (F0.out _).mono ?_); rintro e w2 ⟨rfl, hw⟩; obtain rfl := hw.symm)
      | (go_at_call 7; (with_reducible refine (F1.out _).mono ?_); rintro e w2 ⟨rfl, hw⟩; obtain rfl := hw.symm)
      | (go_at_call 8; (refine (alive_any _).mono ?_); rintro e w5 ⟨rfl, BB⟩
         have HB_w5 := Lib.hid (HB_W.out.trans (BB.mono HB_W.out.size))
         clear BB))
    go_ret
    exact ⟨rfl, HB_w5.out⟩
  cases f1
  rotate_left
  · go_wp2_with (first
      | (go_at_call 7; (with_reducible refine (F0.out _).mono ?_); rintro e w2 ⟨rfl, hw⟩; obtain rfl := hw.symm)
      | (go_at_call 7; (with_reducible refine (F1.out _).mono ?_); rintro e w2 ⟨rfl, hw⟩; obtain rfl := hw.symm)
      | (go_at_call 8; (refine (alive_any _).mono ?_); rintro e w5 ⟨rfl, BB⟩
         have HB_w5 := Lib.hid (HB_W.out.trans (BB.mono HB_W.out.size))
         clear BB))
    go_ret
    exact ⟨rfl, HB_w5.out⟩
  go_upto_region 3 with (first
    | (go_at_call 7; (with_reducible refine (F0.out _).mono ?_); rintro e w2 ⟨rfl, hw⟩; obtain rfl := hw.symm)
    | (go_at_call 7; (with_reducible refine (F1.out _).mono ?_); rintro e w2 ⟨rfl, hw⟩; obtain rfl := hw.symm))
  go_upto_region 4 with (first
    | (refine wpList_load_rowG (by kernel_rfl) 28 (.tmp 2) rfl w.heap.size (by kernel_rfl) _ _ _ _ R0_W.out Try.underlying28 rfl IP.out ?_)
    | (go_at_call 9; (refine (LC.out _ HB_W.out (by trivial)).mono ?_); rintro e W2 ⟨A1, n1, c1, rfl, O1, BB⟩
       have N1 := Lib.hid O1.nums
       have HB_W2 := Lib.hid (HB_W.out.trans (BB.mono HB_W.out.size))
       have R0_W2 := Lib.hid (show W2.heap[w.heap.size]? = some (.cells CP 28 (0, 0)) by rw [BB.block _ (lt_of_row R0_W.out)]; exact R0_W.out)
       have R1_W2 := Lib.hid (show W2.heap[w.heap.size + 1]? = some (.cells CQ 28 (0, 0)) by rw [BB.block _ (lt_of_row R1_W.out)]; exact R1_W.out)
       clear BB O1))
  clear k0 k1 R0_W R1_W HB_W
  go_upto_region 5 with (first
    | (refine wpList_load_rowG (by kernel_rfl) 28 (.tmp 2) rfl w.heap.size (by kernel_rfl) _ _ _ _ R0_W2.out Try.underlying28 rfl IP.out ?_)
    | (go_at_call 10; (refine (LD.out _ HB_W2.out).mono ?_); rintro e V ⟨A2, n2, c2, rfl, O2, BB⟩
       have N1v := Lib.hid ((N1.out.below BB).more BB.size)
       have N2v := Lib.hid O2.nums
       have HB_V := Lib.hid (HB_W2.out.trans (BB.mono HB_W2.out.size))
       have R0_V := Lib.hid (show V.heap[w.heap.size]? = some (.cells CP 28 (0, 0)) by rw [BB.block _ (lt_of_row R0_W2.out)]; exact R0_W2.out)
       have R1_V := Lib.hid (show V.heap[w.heap.size + 1]? = some (.cells CQ 28 (0, 0)) by rw [BB.block _ (lt_of_row R1_W2.out)]; exact R1_W2.out)
       clear BB O2))
  clear N1 R0_W2 R1_W2 HB_W2
  obtain ⟨SB, hSB⟩ : ∃ S, S = strOfNums BS := ⟨_, rfl⟩
  have CV1 := Lib.hid (fun w' (h : Gr V w') => (show (convert 26 9 (.slice A1 n1 c1)).run Try.prog w' = .ok (.string SB) w' by rw [hSB]; exact run_string (N1v.out.below h) c1 26 5 9 Try.underlying26 Try.underlying5 Try.underlying9))
  have CV2 := Lib.hid (fun w' (h : Gr V w') => (show (convert 26 9 (.slice A2 n2 c2)).run Try.prog w' = .ok (.string SB) w' by rw [hSB]; exact run_string (N2v.out.below h) c2 26 5 9 Try.underlying26 Try.underlying5 Try.underlying9))
  have CS := Lib.hid (fun w' (h : Gr V w') => CS0.out w' (HB_V.out.trans (h.mono HB_V.out.size)))
  have DS := Lib.hid (fun w' (h : Gr V w') => DS0.out w' (HB_V.out.trans (h.mono HB_V.out.size)))
  have CT := Lib.hid (fun w' (h : Gr V w') => CT0.out w' (HB_V.out.trans (h.mono HB_V.out.size)))
  clear CS0 DS0 CT0 LC LD hSB N1v N2v
  refine with_act fun a0 ha0 => ?_
  have hl : iaT.length = a0.tmps.size := by rw [ha0]; rfl
  have k2 : a0.tmps[2]?.getD undef = .pointer (some ⟨w.heap.size, 0, none⟩) := by rw [ha0]; rfl
  have k3 : a0.tmps[3]?.getD undef = .pointer (some ⟨(w.heap.size + 1), 0, none⟩) := by rw [ha0]; rfl
  have k5 : a0.tmps[5]?.getD undef = .slice A1 n1 c1 := by rw [ha0]; rfl
  have k6 : a0.tmps[6]?.getD undef = .int .i64 er := by rw [ha0]; rfl
  have k7 : a0.tmps[7]?.getD undef = .slice A2 n2 c2 := by rw [ha0]; rfl
  have k8 : a0.tmps[8]?.getD undef = .int .i64 er := by rw [ha0]; rfl
  refine wp_region_vals (by kernel_rfl) iaT (by kernel_rfl) (by kernel_rfl) hl (fun i => if i = 34 then .bool false else undef) (by rw [ha0]; rfl) (Gr V) (iaV w.heap.size (w.heap.size + 1) CP CQ A1 A2 n1 c1 n2 c2 er my sm SB) (gr_drew _) (iaV.keep _ _ _ _ _ _ _ _ _ _ _ _ _ _) ⟨?_, ?_, ?_, ?_, ?_, ?_, ?_, ?_, ?_, ?_, ?_, ?_, ?_, ?_, ?_, ?_, ?_, ?_, ?_, ?_, ?_, ?_, ?_, ?_, ?_, ?_, ?_, ?_, ?_, ?_, ?_, ?_, ?_, ?_, ?_, trivial⟩ ?_
  · refine step_plain [] (by kernel_rfl) rfl fun us w' hG hV => ?_
    have o5 := (frame_old2 (us := us) (a := a0) (show (iaT[5]?).join = none from rfl)).trans k5
    generalize frame iaT a0 us = fr at *
    exact val_ok (v := .slice A1 n1 c1) (w' := w') (by go_simp) hG (Below.refl _ _) rfl
  · refine step_plain [0] (by kernel_rfl) rfl fun us w' hG hV => ?_
    have e0 : us 0 = .slice A1 n1 c1 := hV 0 (by simp)
    have v0 := (frame_at2 (us := us) hl (show (iaT[28]?).join = some 0 from rfl)).trans e0
    have hcv := CV1.out w' hG
    generalize frame iaT a0 us = fr at *
    exact val_ok (v := .string SB) (w' := w') (by go_simp) hG (Below.refl _ _) rfl
  · refine step_plain [] (by kernel_rfl) rfl fun us w' hG hV => ?_
    have o7 := (frame_old2 (us := us) (a := a0) (show (iaT[7]?).join = none from rfl)).trans k7
    generalize frame iaT a0 us = fr at *
    exact val_ok (v := .slice A2 n2 c2) (w' := w') (by go_simp) hG (Below.refl _ _) rfl
  · refine step_plain [2] (by kernel_rfl) rfl fun us w' hG hV => ?_
    have e2 : us 2 = .slice A2 n2 c2 := hV 2 (by simp)
    have v2 := (frame_at2 (us := us) hl (show (iaT[30]?).join = some 2 from rfl)).trans e2
    have hcv := CV2.out w' hG
    generalize frame iaT a0 us = fr at *
    exact val_ok (v := .string SB) (w' := w') (by go_simp) hG (Below.refl _ _) rfl
  · refine step_plain [1, 3] (by kernel_rfl) rfl fun us w' hG hV => ?_
    have e1 : us 1 = .string SB := hV 1 (by simp)
    have v1 := (frame_at2 (us := us) hl (show (iaT[29]?).join = some 1 from rfl)).trans e1
    have e3 : us 3 = .string SB := hV 3 (by simp)
    have v3 := (frame_at2 (us := us) hl (show (iaT[31]?).join = some 3 from rfl)).trans e3
    generalize frame iaT a0 us = fr at *
    exact val_ok (v := .bool true) (w' := w') (seq_self (S := SB) (a := fr) rfl (by simpa only [Act.eval, Array.getD_eq_getD_getElem?] using v1) (by simpa only [Act.eval, Array.getD_eq_getD_getElem?] using v3)) hG (Below.refl _ _) rfl
  · refine step_plain [4] (by kernel_rfl) rfl fun us w' hG hV => ?_
    have e4 : us 4 = .bool true := hV 4 (by simp)
    have v4 := (frame_at2 (us := us) hl (show (iaT[32]?).join = some 4 from rfl)).trans e4
    generalize frame iaT a0 us = fr at *
    exact val_ok (v := .bool true) (w' := w') (by go_simp) hG (Below.refl _ _) rfl
  · refine step_guard [5] (by kernel_rfl) (j := 5) (t := 33) (b := true) rfl (by simp) rfl hl rfl (fun v w h => h) fun us w' hG hV => ?_
    have o6 := (frame_old2 (us := us) (a := a0) (show (iaT[6]?).join = none from rfl)).trans k6
    generalize frame iaT a0 us = fr at *
    exact val_ok (v := .int .i64 er) (w' := w') (by go_simp) hG (Below.refl _ _) rfl
  · refine step_guard [5] (by kernel_rfl) (j := 5) (t := 33) (b := true) rfl (by simp) rfl hl rfl (fun v w h => h) fun us w' hG hV => ?_
    have o8 := (frame_old2 (us := us) (a := a0) (show (iaT[8]?).join = none from rfl)).trans k8
    generalize frame iaT a0 us = fr at *
    exact val_ok (v := .int .i64 er) (w' := w') (by go_simp) hG (Below.refl _ _) rfl
  · refine step_guard [5, 6, 7] (by kernel_rfl) (j := 5) (t := 33) (b := true) rfl (by simp) rfl hl rfl (fun v w h => h) fun us w' hG hV => ?_
    have e6 : us 6 = .int .i64 er := hV 6 (by simp)
    have v6 := (frame_at2 (us := us) hl (show (iaT[34]?).join = some 6 from rfl)).trans e6
    have e7 : us 7 = .int .i64 er := hV 7 (by simp)
    have v7 := (frame_at2 (us := us) hl (show (iaT[35]?).join = some 7 from rfl)).trans e7
    generalize frame iaT a0 us = fr at *
    exact val_ok (v := .bool true) (w' := w') (by go_simp) hG (Below.refl _ _) rfl
  · refine step_plain [5, 8] (by kernel_rfl) rfl fun us w' hG hV => ?_
    have e5 : us 5 = .bool true := hV 5 (by simp)
    have v5 := (frame_at2 (us := us) hl (show (iaT[33]?).join = some 5 from rfl)).trans e5
    have e8 : us 8 = .bool true := hV 8 (by simp)
    have v8 := (frame_at2 (us := us) hl (show (iaT[36]?).join = some 8 from rfl)).trans e8
    generalize frame iaT a0 us = fr at *
    exact val_ok (v := .bool true) (w' := w') (by go_simp) hG (Below.refl _ _) rfl
  · refine step_plain [9] (by kernel_rfl) rfl fun us w' hG hV => ?_
    have e9 : us 9 = .bool true := hV 9 (by simp)
    have v9 := (frame_at2 (us := us) hl (show (iaT[37]?).join = some 9 from rfl)).trans e9
    generalize frame iaT a0 us = fr at *
    exact val_ok (v := .bool true) (w' := w') (by go_simp) hG (Below.refl _ _) rfl
  · refine step_guard [10] (by kernel_rfl) (j := 10) (t := 38) (b := true) rfl (by simp) rfl hl rfl (fun v w h => h) fun us w' hG hV => ?_
    have o2 := (frame_old2 (us := us) (a := a0) (show (iaT[2]?).join = none from rfl)).trans k2
    have hg1 := hG.row R0_V.out
    generalize frame iaT a0 us = fr at *
    exact load_ok 28 2 rfl (w.heap.size) o2 _ _ (0, 0) _ hg1 Try.underlying28 rfl IP.out hG rfl
  · refine step_guard [10, 11] (by kernel_rfl) (j := 10) (t := 38) (b := true) rfl (by simp) rfl hl rfl (fun v w h => h) fun us w' hG hV => ?_
    have e11 : us 11 = .agg CP := hV 11 (by simp)
    have v11 := (frame_at2 (us := us) hl (show (iaT[39]?).join = some 11 from rfl)).trans e11
    generalize frame iaT a0 us = fr at *
    exact call_ok (f := 11) (args := #[.agg CP]) (by go_simp) ((CM.out w').mono fun e w'' h => ⟨_, h.1, hG.below h.2, h.2, rfl⟩)
  · refine step_guard [10] (by kernel_rfl) (j := 10) (t := 38) (b := true) rfl (by simp) rfl hl rfl (fun v w h => h) fun us w' hG hV => ?_
    have o2 := (frame_old2 (us := us) (a := a0) (show (iaT[2]?).join = none from rfl)).trans k2
    have hg1 := hG.row R0_V.out
    generalize frame iaT a0 us = fr at *
    exact load_ok 28 2 rfl (w.heap.size) o2 _ _ (0, 0) _ hg1 Try.underlying28 rfl IP.out hG rfl
  · refine step_guard [10, 13] (by kernel_rfl) (j := 10) (t := 38) (b := true) rfl (by simp) rfl hl rfl (fun v w h => h) fun us w' hG hV => ?_
    have e13 : us 13 = .agg CP := hV 13 (by simp)
    have v13 := (frame_at2 (us := us) hl (show (iaT[41]?).join = some 13 from rfl)).trans e13
    generalize frame iaT a0 us = fr at *
    exact call_ok (f := 12) (args := #[.agg CP]) (by go_simp) ((DM.out w').mono fun e w'' h => ⟨_, h.1, hG.below h.2, h.2, rfl⟩)
  · refine step_guard [10, 12, 14] (by kernel_rfl) (j := 10) (t := 38) (b := true) rfl (by simp) rfl hl rfl (fun v w h => h) fun us w' hG hV => ?_
    have e12 : us 12 = .bool my := hV 12 (by simp)
    have v12 := (frame_at2 (us := us) hl (show (iaT[40]?).join = some 12 from rfl)).trans e12
    have e14 : us 14 = .bool my := hV 14 (by simp)
    have v14 := (frame_at2 (us := us) hl (show (iaT[42]?).join = some 14 from rfl)).trans e14
    generalize frame iaT a0 us = fr at *
    exact val_ok (v := .bool true) (w' := w') (by go_simp) hG (Below.refl _ _) rfl
  · refine step_plain [10, 15] (by kernel_rfl) rfl fun us w' hG hV => ?_
    have e10 : us 10 = .bool true := hV 10 (by simp)
    have v10 := (frame_at2 (us := us) hl (show (iaT[38]?).join = some 10 from rfl)).trans e10
    have e15 : us 15 = .bool true := hV 15 (by simp)
    have v15 := (frame_at2 (us := us) hl (show (iaT[43]?).join = some 15 from rfl)).trans e15
    generalize frame iaT a0 us = fr at *
    exact val_ok (v := .bool true) (w' := w') (by go_simp) hG (Below.refl _ _) rfl
  · refine step_plain [16] (by kernel_rfl) rfl fun us w' hG hV => ?_
    have e16 : us 16 = .bool true := hV 16 (by simp)
    have v16 := (frame_at2 (us := us) hl (show (iaT[44]?).join = some 16 from rfl)).trans e16
    generalize frame iaT a0 us = fr at *
    exact val_ok (v := .bool true) (w' := w') (by go_simp) hG (Below.refl _ _) rfl
  · refine step_guard [17] (by kernel_rfl) (j := 17) (t := 45) (b := true) rfl (by simp) rfl hl rfl (fun v w h => h) fun us w' hG hV => ?_
    have o2 := (frame_old2 (us := us) (a := a0) (show (iaT[2]?).join = none from rfl)).trans k2
    have hg1 := hG.row R0_V.out
    generalize frame iaT a0 us = fr at *
    exact load_ok 28 2 rfl (w.heap.size) o2 _ _ (0, 0) _ hg1 Try.underlying28 rfl IP.out hG rfl
  · refine step_guard [17] (by kernel_rfl) (j := 17) (t := 45) (b := true) rfl (by simp) rfl hl rfl (fun v w h => h) fun us w' hG hV => ?_
    have o3 := (frame_old2 (us := us) (a := a0) (show (iaT[3]?).join = none from rfl)).trans k3
    have hg1 := hG.row R1_V.out
    generalize frame iaT a0 us = fr at *
    exact load_ok 28 3 rfl ((w.heap.size + 1)) o3 _ _ (0, 0) _ hg1 Try.underlying28 rfl IQ.out hG rfl
  · refine step_guard [17, 18, 19] (by kernel_rfl) (j := 17) (t := 45) (b := true) rfl (by simp) rfl hl rfl (fun v w h => h) fun us w' hG hV => ?_
    have e18 : us 18 = .agg CP := hV 18 (by simp)
    have v18 := (frame_at2 (us := us) hl (show (iaT[46]?).join = some 18 from rfl)).trans e18
    have e19 : us 19 = .agg CQ := hV 19 (by simp)
    have v19 := (frame_at2 (us := us) hl (show (iaT[47]?).join = some 19 from rfl)).trans e19
    generalize frame iaT a0 us = fr at *
    exact call_ok (f := 13) (args := #[.agg CP, .agg CQ]) (by go_simp) ((CS.out w' hG).mono fun e w'' h => ⟨_, h.1, hG.below h.2, h.2, rfl⟩)
  · refine step_guard [17] (by kernel_rfl) (j := 17) (t := 45) (b := true) rfl (by simp) rfl hl rfl (fun v w h => h) fun us w' hG hV => ?_
    have o2 := (frame_old2 (us := us) (a := a0) (show (iaT[2]?).join = none from rfl)).trans k2
    have hg1 := hG.row R0_V.out
    generalize frame iaT a0 us = fr at *
    exact load_ok 28 2 rfl (w.heap.size) o2 _ _ (0, 0) _ hg1 Try.underlying28 rfl IP.out hG rfl
  · refine step_guard [17] (by kernel_rfl) (j := 17) (t := 45) (b := true) rfl (by simp) rfl hl rfl (fun v w h => h) fun us w' hG hV => ?_
    have o3 := (frame_old2 (us := us) (a := a0) (show (iaT[3]?).join = none from rfl)).trans k3
    have hg1 := hG.row R1_V.out
    generalize frame iaT a0 us = fr at *
    exact load_ok 28 3 rfl ((w.heap.size + 1)) o3 _ _ (0, 0) _ hg1 Try.underlying28 rfl IQ.out hG rfl
  · refine step_guard [17, 21, 22] (by kernel_rfl) (j := 17) (t := 45) (b := true) rfl (by simp) rfl hl rfl (fun v w h => h) fun us w' hG hV => ?_
    have e21 : us 21 = .agg CP := hV 21 (by simp)
    have v21 := (frame_at2 (us := us) hl (show (iaT[49]?).join = some 21 from rfl)).trans e21
    have e22 : us 22 = .agg CQ := hV 22 (by simp)
    have v22 := (frame_at2 (us := us) hl (show (iaT[50]?).join = some 22 from rfl)).trans e22
    generalize frame iaT a0 us = fr at *
    exact call_ok (f := 14) (args := #[.agg CP, .agg CQ]) (by go_simp) ((DS.out w' hG).mono fun e w'' h => ⟨_, h.1, hG.below h.2, h.2, rfl⟩)
  · refine step_guard [17, 20, 23] (by kernel_rfl) (j := 17) (t := 45) (b := true) rfl (by simp) rfl hl rfl (fun v w h => h) fun us w' hG hV => ?_
    have e20 : us 20 = .bool sm := hV 20 (by simp)
    have v20 := (frame_at2 (us := us) hl (show (iaT[48]?).join = some 20 from rfl)).trans e20
    have e23 : us 23 = .bool sm := hV 23 (by simp)
    have v23 := (frame_at2 (us := us) hl (show (iaT[51]?).join = some 23 from rfl)).trans e23
    generalize frame iaT a0 us = fr at *
    exact val_ok (v := .bool true) (w' := w') (by go_simp) hG (Below.refl _ _) rfl
  · refine step_plain [17, 24] (by kernel_rfl) rfl fun us w' hG hV => ?_
    have e17 : us 17 = .bool true := hV 17 (by simp)
    have v17 := (frame_at2 (us := us) hl (show (iaT[45]?).join = some 17 from rfl)).trans e17
    have e24 : us 24 = .bool true := hV 24 (by simp)
    have v24 := (frame_at2 (us := us) hl (show (iaT[52]?).join = some 24 from rfl)).trans e24
    generalize frame iaT a0 us = fr at *
    exact val_ok (v := .bool true) (w' := w') (by go_simp) hG (Below.refl _ _) rfl
  · refine step_plain [25] (by kernel_rfl) rfl fun us w' hG hV => ?_
    have e25 : us 25 = .bool true := hV 25 (by simp)
    have v25 := (frame_at2 (us := us) hl (show (iaT[53]?).join = some 25 from rfl)).trans e25
    generalize frame iaT a0 us = fr at *
    exact val_ok (v := .bool true) (w' := w') (by go_simp) hG (Below.refl _ _) rfl
  · refine step_guard [26] (by kernel_rfl) (j := 26) (t := 54) (b := true) rfl (by simp) rfl hl rfl (fun v w h => h) fun us w' hG hV => ?_
    have o2 := (frame_old2 (us := us) (a := a0) (show (iaT[2]?).join = none from rfl)).trans k2
    have hg1 := hG.row R0_V.out
    generalize frame iaT a0 us = fr at *
    exact load_ok 28 2 rfl (w.heap.size) o2 _ _ (0, 0) _ hg1 Try.underlying28 rfl IP.out hG rfl
  · refine step_guard [26] (by kernel_rfl) (j := 26) (t := 54) (b := true) rfl (by simp) rfl hl rfl (fun v w h => h) fun us w' hG hV => ?_
    have o2 := (frame_old2 (us := us) (a := a0) (show (iaT[2]?).join = none from rfl)).trans k2
    have hg1 := hG.row R0_V.out
    generalize frame iaT a0 us = fr at *
    exact load_ok 28 2 rfl (w.heap.size) o2 _ _ (0, 0) _ hg1 Try.underlying28 rfl IP.out hG rfl
  · refine step_guard [26, 27, 28] (by kernel_rfl) (j := 26) (t := 54) (b := true) rfl (by simp) rfl hl rfl (fun v w h => h) fun us w' hG hV => ?_
    have e27 : us 27 = .agg CP := hV 27 (by simp)
    have v27 := (frame_at2 (us := us) hl (show (iaT[55]?).join = some 27 from rfl)).trans e27
    have e28 : us 28 = .agg CP := hV 28 (by simp)
    have v28 := (frame_at2 (us := us) hl (show (iaT[56]?).join = some 28 from rfl)).trans e28
    generalize frame iaT a0 us = fr at *
    exact call_ok (f := 13) (args := #[.agg CP, .agg CP]) (by go_simp) ((CT.out w' hG).mono fun e w'' h => ⟨_, h.1, hG.below h.2, h.2, rfl⟩)
  · refine step_plain [26, 29] (by kernel_rfl) rfl fun us w' hG hV => ?_
    have e26 : us 26 = .bool true := hV 26 (by simp)
    have v26 := (frame_at2 (us := us) hl (show (iaT[54]?).join = some 26 from rfl)).trans e26
    have e29 : us 29 = .bool true := hV 29 (by simp)
    have v29 := (frame_at2 (us := us) hl (show (iaT[57]?).join = some 29 from rfl)).trans e29
    generalize frame iaT a0 us = fr at *
    exact val_ok (v := .bool true) (w' := w') (by go_simp) hG (Below.refl _ _) rfl
  · refine step_plain [30] (by kernel_rfl) rfl fun us w' hG hV => ?_
    have e30 : us 30 = .bool true := hV 30 (by simp)
    have v30 := (frame_at2 (us := us) hl (show (iaT[58]?).join = some 30 from rfl)).trans e30
    generalize frame iaT a0 us = fr at *
    exact val_ok (v := .bool true) (w' := w') (by go_simp) hG (Below.refl _ _) rfl
  · refine step_guard [31] (by kernel_rfl) (j := 31) (t := 59) (b := true) rfl (by simp) rfl hl rfl (fun v w h => h) fun us w' hG hV => ?_
    generalize frame iaT a0 us = fr at *
    exact call_ok (f := 8) (args := #[]) (by go_simp) ((alive_any w').mono fun e w'' h => ⟨_, h.1, hG.below h.2, h.2, rfl⟩)
  · refine step_plain [31, 32] (by kernel_rfl) rfl fun us w' hG hV => ?_
    have e31 : us 31 = .bool true := hV 31 (by simp)
    have v31 := (frame_at2 (us := us) hl (show (iaT[59]?).join = some 31 from rfl)).trans e31
    have e32 : us 32 = .bool true := hV 32 (by simp)
    have v32 := (frame_at2 (us := us) hl (show (iaT[60]?).join = some 32 from rfl)).trans e32
    generalize frame iaT a0 us = fr at *
    exact val_ok (v := .bool true) (w' := w') (by go_simp) hG (Below.refl _ _) rfl
  · refine step_plain [33] (by kernel_rfl) rfl fun us w' hG hV => ?_
    have e33 : us 33 = .bool true := hV 33 (by simp)
    have v33 := (frame_at2 (us := us) hl (show (iaT[61]?).join = some 33 from rfl)).trans e33
    generalize frame iaT a0 us = fr at *
    exact val_ok (v := .bool true) (w' := w') (by go_simp) hG (Below.refl _ _) rfl
  · intro us w' hG hV
    have eL : us 34 = .bool true := hV 34 (by decide)
    subst ha0
    simp only [frame, iaT, fill]
    rw [eL]
    go_wp2_with fail
    go_ret
    exact ⟨rfl, HB_V.out.trans (hG.mono HB_V.out.size)⟩
end Go.Proofs.Ytmedccfekfnmlaa.pkC

/-
  The walk of IpfourBack.
-/
namespace Go.Proofs.Ytmedccfekfnmlaa.pkC
open Go.ChangeShapes Go.WideShapes Go.ChangeAt Go.RowKit
open Go.Proofs.Ytmedccfekfnmlaa.memC Go.Proofs.Ytmedccfekfnmlaa.genC Go.Proofs.Ytmedccfekfnmlaa.butC Go.Proofs.Ytmedccfekfnmlaa.freeC Go.Proofs.Ytmedccfekfnmlaa.adC
set_option linter.unusedVariables false
set_option maxRecDepth 100000 in
set_option maxHeartbeats 4000000 in
theorem back_walk (p : Pkt) (A : Option Addr) (n c : Nat) (xs : List Int) (A2 : Option Addr) (m c2 : Nat) (ys : List Int) (w : World) (hp : p.Ok) (hx : Nums .u8 w w.heap.size A n xs) (yx : ∀ x ∈ xs, Byte x)
    (hy : Nums .u8 w w.heap.size A2 m ys) (yy : ∀ x ∈ ys, Byte x) (hn : n ≤ 9223372036854775807) (hm : m ≤ 9223372036854775807) :
    Calls Try.prog 4 #[.agg (pktV p A n c), .slice A2 m c2] w (Ret w (.bool true)) := by
  have hzv := zeroPkt
  obtain ⟨i0, hi0, hz0, hz1, hz2⟩ := info_parts byte_inf
  have T1 := Lib.hid hi0; have T2 := Lib.hid hz0; have T3 := Lib.hid hz1; have T4 := Lib.hid hz2
  obtain ⟨W, hW⟩ : ∃ W, W = w.alloc (.cells (pktV p A n c) 28) := ⟨_, rfl⟩
  have R0_W := Lib.hid (show W.heap[w.heap.size]? = some (.cells (pktV p A n c) 28 (0, 0)) by rw [hW]; exact heap_alloc_new w _)
  have HB_W := Lib.hid (show Below w.heap.size w W by rw [hW]; exact alloc_below _ _)
  have k0 := PkC.cell R0_W.out (pkC hp A n c).load
  have IP := Lib.hid (pkC hp A n c).info
  have LC0 := Lib.hid (fun w' (h : Below w.heap.size w w') (hfar : farB n = false) => clay_any p A n c xs w' hp ((hx.below h).more h.size) yx hn (far_may hfar))
  have F0 := Lib.hid (fun w' => far_any A n c w' hn)
  have CM := Lib.hid (fun w' => cmay_pkt p A n c w' hp hn)
  have hxl := hx.len
  have hyl := hy.len
  by_cases hfar : farB n = true
  · rw [hfar] at F0
    generalize pktV p A n c = CP at *
    clear hp hx hy yx yy hi0 hz0 hz1 hz2 hxl hyl hfar
    go_enter Try.func4, Try.ntmps4
    go_upto_region 1 with fail
    rw [← hW]
    clear hW
    go_wp2_with (first
      | (go_at_call 7; (refine (F0.out _).mono ?_); rintro e w2 ⟨rfl, hw⟩; obtain rfl := hw.symm)
      | (go_at_call 8; (refine (alive_any _).mono ?_); rintro e w5 ⟨rfl, BB⟩
         have HB_w5 := Lib.hid (HB_W.out.trans (BB.mono HB_W.out.size))
         clear BB))
    go_ret
    exact ⟨rfl, HB_w5.out⟩
  have hfar' : farB n = false := by cases h : farB n <;> simp_all
  have LC := Lib.hid (fun w' (h : Below w.heap.size w w') => LC0.out w' h hfar')
  clear LC0
  rw [hfar'] at F0
  by_cases hm2 : 2000 < m
  · have q2 : (2000 : Int) < (m : Int) := by omega
    generalize pktV p A n c = CP at *
    clear hp hx hy yx yy hi0 hz0 hz1 hz2 hxl hyl hfar hfar' hm2
    go_enter Try.func4, Try.ntmps4
    go_upto_region 1 with fail
    rw [← hW]
    clear hW
    go_wp2_with (first
      | (go_at_call 7; (refine (F0.out _).mono ?_); rintro e w2 ⟨rfl, hw⟩; obtain rfl := hw.symm)
      | (go_at_call 8; (refine (alive_any _).mono ?_); rintro e w5 ⟨rfl, BB⟩
         have HB_w5 := Lib.hid (HB_W.out.trans (BB.mono HB_W.out.size))
         clear BB))
    go_ret
    exact ⟨rfl, HB_w5.out⟩
  have q2 : decide ((2000 : Int) < (m : Int)) = false := decide_eq_false (by omega)
  by_cases hmay : mayB p n = true
  rotate_left
  · have hmay' : mayB p n = false := by cases h : mayB p n <;> simp_all
    have ev : layL p n xs = [] := by unfold layL; rw [hmay']; rfl
    have ee : layE p n = 1 := by unfold layE; rw [hmay']; rfl
    rw [ev, ee] at LC
    rw [hmay'] at CM
    generalize pktV p A n c = CP at *
    clear hp hx hy yx yy hi0 hz0 hz1 hz2 hxl hyl hfar hfar' hm2 hmay hmay' ev ee
    go_enter Try.func4, Try.ntmps4
    go_upto_region 1 with fail
    rw [← hW]
    clear hW
    go_upto_region 3 with (first
      | (go_at_call 7; (refine (F0.out _).mono ?_); rintro e w2 ⟨rfl, hw⟩; obtain rfl := hw.symm))
    go_upto_region 4 with (first
      | (refine wpList_load_rowG (by kernel_rfl) 28 (.tmp 2) rfl w.heap.size (by kernel_rfl) _ _ _ _ R0_W.out Try.underlying28 rfl IP.out ?_)
      | (go_at_call 9; (refine (LC.out _ HB_W.out).mono ?_); rintro e W2 ⟨A1, n1, c1, rfl, O1, BB⟩
         have hn1 := O1.len
         simp only [List.length_nil] at hn1
         subst hn1
         have HB_W2 := Lib.hid (HB_W.out.trans (BB.mono HB_W.out.size))
         have R0_W2 := Lib.hid (show W2.heap[w.heap.size]? = some (.cells CP 28 (0, 0)) by rw [BB.block _ (lt_of_row R0_W.out)]; exact R0_W.out)
         clear BB O1))
    go_wp2_with (first
      | (refine wpList_load_rowG (by kernel_rfl) 28 (.tmp 2) rfl w.heap.size (by kernel_rfl) _ _ _ _ R0_W2.out Try.underlying28 rfl IP.out ?_)
      | (go_at_call 11; (refine (CM.out _).mono ?_); rintro e w4 ⟨rfl, BB⟩
         have HB_w4 := Lib.hid (HB_W2.out.trans (BB.mono HB_W2.out.size))
         clear BB)
      | (go_at_call 8; (refine (alive_any _).mono ?_); rintro e w5 ⟨rfl, BB⟩
         have HB_w5 := Lib.hid (HB_w4.out.trans (BB.mono HB_w4.out.size))
         clear BB))
    go_ret
    exact ⟨rfl, HB_w5.out⟩
  have hn2 : n ≤ 2000 := by
    have h1 := mayB_pos hmay
    unfold farB at hfar'
    simp at hfar'
    omega
  have ee : layE p n = 0 := by unfold layE; rw [if_pos hmay]
  rw [ee] at LC
  have hbl := layL_len hp hxl hmay
  have hpl := parse_lay (xs := xs) hp (by rw [hxl]; exact hmay) ys
  rw [hxl] at hpl
  have hby : ∀ x ∈ layL p n xs ++ ys, Byte x := fun x h => by
    rcases List.mem_append.1 h with h | h
    · exact layL_byte hp yx x h
    · exact yy x h
  have PC := Lib.hid (fun w' A n' c (hb : Nums .u8 w' w'.heap.size A n' (layL p n xs ++ ys)) (hn : n' ≤ 9000) => (show Calls Try.prog 15 #[.slice A n' c] w' (fun e w'' => ∃ A n c, e = .returned (.tuple #[.agg (pktV p A n c), .int .i64 0]) ∧ Nums .u8 w'' w''.heap.size A n xs ∧ Below w'.heap.size w' w'') by
    have h := cparse_any A n' c _ w' hb hby hn
    obtain ⟨h1, h2, h3⟩ := hpl
    unfold PsR psP psX at h
    rw [h1, h2, h3] at h
    exact h))
  have SC := Lib.hid (fun w' B m d (h : Below w.heap.size w w') (hy : Nums .u8 w' w'.heap.size B m xs) => (show Calls Try.prog 13 #[.agg (pktV p A n c), .agg (pktV p B m d)] w' (Ret w' (.bool true)) by
    have h := csame_any p p A B n c m d xs xs w' hp hp ((hx.below h).more h.size) hy yx yx
    rw [sameB_iff.2 ⟨rfl, rfl⟩] at h
    exact h))
  have PK := Lib.hid (fun B m d => And.intro (pkC hp B m d).info (And.intro (show (pktV zPkt none 0 0).size = (pktV p B m d).size by rw [(pkC zPkt_ok none 0 0).size, (pkC hp B m d).size]) (pkt_one p B m d)))
  have HY := Lib.hid (fun w' (h : Below w.heap.size w w') => (hy.below h).more h.size)
  have BL := Lib.hid hbl
  have LL := Lib.hid (show (layL p n xs ++ ys).length = 20 + n + m by rw [List.length_append, hbl, hyl])
  have N2 := Lib.hid hn2
  have M2 := Lib.hid (show m ≤ 2000 by omega)
  have hCP : pktV p A n c = pktV p A n c := rfl
  generalize layL p n xs = BS at *
  generalize hZ : pktV zPkt none 0 0 = Z at *
  obtain ⟨CP, hCP⟩ : ∃ C, C = pktV p A n c := ⟨_, rfl⟩
  rw [← hCP] at R0_W IP LC CM hW SC ⊢
  clear hp hx hy yx yy hi0 hz0 hz1 hz2 hxl hyl hfar hfar' hm2 hmay ee hbl hpl hby hn2 hZ hCP
  go_enter Try.func4, Try.ntmps4
  go_upto_region 1 with fail
  rw [← hW]
  clear hW
  go_upto_region 3 with (first
    | (go_at_call 7; (refine (F0.out _).mono ?_); rintro e w2 ⟨rfl, hw⟩; obtain rfl := hw.symm))
  clear k0
  go_upto_region 4 with (first
    | (refine wpList_load_rowG (by kernel_rfl) 28 (.tmp 2) rfl w.heap.size (by kernel_rfl) _ _ _ _ R0_W.out Try.underlying28 rfl IP.out ?_)
    | (go_at_call 9; (refine (LC.out _ HB_W.out).mono ?_); rintro e W2 ⟨A1, n1, c1, rfl, O1, BB⟩
       have HO1 := Lib.hid O1
       have HB_W2 := Lib.hid (HB_W.out.trans (BB.mono HB_W.out.size))
       have BS2 := Lib.hid (show W.heap.size ≤ W2.heap.size from BB.size)
       have R0_W2 := Lib.hid (show W2.heap[w.heap.size]? = some (.cells CP 28 (0, 0)) by rw [BB.block _ (lt_of_row R0_W.out)]; exact R0_W.out)
       have R0L := Lib.hid (lt_of_row R0_W.out)
       have HWw := Lib.hid HB_W.out.size
       clear BB O1 R0_W HB_W))
  generalize W.heap.size = gW at *
  go_upto_region 7 with (first
    | (at_builtin; (refine wpList_app _ rfl (.tmp 37) (.tmp 38) _ rfl 5 i0 _ 1 Try.underlying26 T1.out T2.out T3.out T4.out rfl gW _ BS rfl HO1.out W2.heap.size _ m c2 ys rfl (HY.out _ HB_W2.out) (by rw [BL.out]; have := N2.out; have := M2.out; unfold maxLen; omega) (by rw [BL.out]; have := N2.out; have := M2.out; omega) BS2.out ?_)
       intro v3 W3 O3 hg3
       obtain ⟨A3, c3, ev3, _, _, N3⟩ := O3.form
       rw [LL.out] at ev3 N3
       subst ev3
       have NN3 := Lib.hid N3
       have B3 := Lib.hid (show Below gW W2 W3 from (Below.refl _ _).grown hg3 BS2.out fun g hg => (HO1.out.blk g hg).1)
       have HB_W3 := Lib.hid (show Below w.heap.size w W3 from HB_W2.out.trans (B3.out.mono HWw.out))
       have R0_W3 := Lib.hid (show W3.heap[w.heap.size]? = some (.cells CP 28 (0, 0)) by rw [B3.out.block _ R0L.out]; exact R0_W2.out)
       clear O3 hg3 N3 B3)
    | (go_at_call 15; (refine (PC.out _ _ _ _ NN3.out (by have := N2.out; have := M2.out; omega)).mono ?_); rintro e v4 ⟨Aq, nq, cq, rfl, Nq, BB⟩
       have PQ := Lib.hid (PK.out Aq nq cq)
       have NQ4 := Lib.hid Nq
       have HB_v4 := Lib.hid (HB_W3.out.trans (BB.mono HB_W3.out.size))
       have RP_v4 := Lib.hid (show v4.heap[w.heap.size]? = some (.cells CP 28 (0, 0)) by rw [BB.block _ (lt_of_row R0_W3.out)]; exact R0_W3.out)
       have HN_v4 := Lib.hid (show (v4.alloc (.cells Z 28)).heap[v4.heap.size]? = some (.cells Z 28 (0, 0)) from heap_alloc_new _ _)
       clear BB Nq)
    | (refine wpList_store_row rfl 28 (.tmp 7) (.tmp 41) rfl v4.heap.size (pktV p Aq nq cq) rfl rfl _ _ HN_v4.out PQ.out.1 PQ.out.2.1 PQ.out.2.2 ?_))
  rw [World.setRow_alloc_new]
  have HB_W5 := Lib.hid (show Below w.heap.size w (v4.alloc (.cells (pktV p Aq nq cq) 28)) from HB_v4.out.trans ((alloc_below _ _).mono HB_v4.out.size))
  have BA := Lib.hid (alloc_below v4 (.cells (pktV p Aq nq cq) 28))
  have R0_W5 := Lib.hid (show (v4.alloc (.cells (pktV p Aq nq cq) 28)).heap[w.heap.size]? = some (.cells CP 28 (0, 0)) by rw [(alloc_below _ _).block _ (lt_of_row RP_v4.out)]; exact RP_v4.out)
  have RQ_W5 := Lib.hid (show (v4.alloc (.cells (pktV p Aq nq cq) 28)).heap[v4.heap.size]? = some (.cells (pktV p Aq nq cq) 28 (0, 0)) from heap_alloc_new _ _)
  have NQ5 := Lib.hid ((NQ4.out.below BA.out).more BA.out.size)
  have S5 := Lib.hid (SC.out _ _ _ cq HB_W5.out NQ5.out)
  clear HB_v4 BA RP_v4 NQ4 HN_v4 NN3 NQ5 SC
  generalize v4.heap.size = g2 at *
  generalize v4.alloc (.cells (pktV p Aq nq cq) 28) = W5 at *
  generalize pktV p Aq nq cq = CQ at *
  go_wp2_with (first
    | (refine wpList_load_rowG (by kernel_rfl) 28 (.tmp 2) rfl w.heap.size (by kernel_rfl) _ _ _ _ R0_W5.out Try.underlying28 rfl IP.out ?_)
    | (refine wpList_load_rowG (by kernel_rfl) 28 (.tmp 7) rfl g2 (by kernel_rfl) _ _ _ _ RQ_W5.out Try.underlying28 rfl PQ.out.1 ?_)
    | (go_at_call 13; (refine S5.out.mono ?_); rintro e W7 ⟨rfl, BB⟩
       have HB_W7 := Lib.hid (HB_W5.out.trans (BB.mono HB_W5.out.size))
       clear BB)
    | (go_at_call 8; (refine (alive_any _).mono ?_); rintro e w8 ⟨rfl, BB⟩
       have HB_w8 := Lib.hid (HB_W7.out.trans (BB.mono HB_W7.out.size))
       clear BB))
  go_ret
  exact ⟨rfl, HB_w8.out⟩
end Go.Proofs.Ytmedccfekfnmlaa.pkC

/-
  The walk of the fifth statement.
-/
namespace Go.Proofs.Ytmedccfekfnmlaa.chkC
open Go.ChangeShapes Go.WideShapes Go.ChangeAt Go.RowKit
open Go.Proofs.Ytmedccfekfnmlaa.memC Go.Proofs.Ytmedccfekfnmlaa.chkM
set_option linter.unusedVariables false
/-- where a number of 16 bits stands -/
theorem place (a : Int) (q : Nat) (hq : 0 < q) : ∃ (r : Int) (t : Nat), a.tmod q = r ∧ -(q : Int) < r ∧ r < q ∧ (r + q).tmod q = (t : Int) ∧ t < q := by
  have h1 := Int.tmod_lt_of_pos a (b := (q : Int)) (by omega)
  have h2 := Int.lt_tmod_of_pos a (b := (q : Int)) (by omega)
  refine ⟨_, ((a.tmod q + q).tmod q).toNat, rfl, by omega, h1, ?_, ?_⟩
  · have := Int.tmod_nonneg (a := a.tmod q + q) (q : Int) (by omega)
    omega
  · have := Int.tmod_lt_of_pos (a.tmod q + q) (b := (q : Int)) (by omega)
    have := Int.tmod_nonneg (a := a.tmod q + q) (q : Int) (by omega)
    omega
end Go.Proofs.Ytmedccfekfnmlaa.chkC
