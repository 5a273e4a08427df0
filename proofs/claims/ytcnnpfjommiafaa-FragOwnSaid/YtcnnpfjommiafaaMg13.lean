/-
  2 texts of a proof, joined.
-/
import Derived.Test.YtcnnpfjommiafaaMg12
import Derived.Great.BuildSlice
import Derived.Test.YtcnnpfjommiafaaMg8
import Derived.Test.YtcnnpfjommiafaaMg7

/-
  What a packet is cut into: the document's Cut.
-/
namespace Go.Proofs.Ytcnnpfjommiafaa.fgC
open Go.ChangeShapes Go.WideShapes Go.ChangeAt Go.RowKit
open Go.Proofs.Ytcnnpfjommiafaa.memC Go.Proofs.Ytcnnpfjommiafaa.genC Go.Proofs.Ytcnnpfjommiafaa.butC Go.Proofs.Ytcnnpfjommiafaa.freeC Go.Proofs.Ytcnnpfjommiafaa.adC
open Go.Proofs.Ytcnnpfjommiafaa.pkC (Pkt pktL pktV pktT adrC)
set_option linter.unusedVariables false
theorem byte_infK : (Try.prog.info? 5).map (fun i => (i.zero, i.size, i.bytes)) = some (some (.int .u8 0), 1, 1) := by kernel_rfl
theorem partNK {w : World} {B : Nat} {A : Option Addr} {n d k : Nat} {bs : List Int} (h : Nums .u8 w B A n bs) (hk : k ≤ n) (hd : n ≤ d) : Nums .u8 w B (if d = k then A else A.map (·.add k)) (n - k) (bs.drop k) := by
  have hl := h.len
  refine ⟨by rw [List.length_drop]; omega, fun h0 => ?_⟩
  obtain ⟨b, o, e, hb, hc⟩ := h.at_ (by omega)
  subst e
  rw [if_neg (by omega), show (some (⟨b, o, none⟩ : Addr)).map (·.add k) = some ⟨b, o + k, none⟩ by simp [memC.add_plain]]
  refine ⟨b, o + k, rfl, hb, fun i hi => ?_⟩
  have := hc (k + i) (by omega)
  rw [Nat.add_assoc, this]
  simp only [List.getD_eq_getElem?_getD, List.getElem?_drop]
/-- a slice of one packet -/
theorem wpList_sliceK {ops : Array Oper} {rest : List Oper} {o : Oper} {a : Act} {w : World} {Q : Exit → Act → World → Prop} (hg : o.guard = none) (x : Operand) (ho : o.op = .buildSlice 30 1 #[(0, x)]) (C : Array Value) (hx : a.eval x = .agg C) (hC : C.size = 41)
    (h : wpList Try.prog ops Q rest (a.put o.dst (.slice (some ⟨w.heap.size, 0, none⟩) 1 1)) (w.alloc (.cells C 28))) : wpList Try.prog ops Q (o :: rest) a w := by
  obtain ⟨ie, hie, he⟩ := Option.map_eq_some_iff.1 pkt_infoK
  obtain ⟨hz, he2⟩ := Prod.mk.inj he
  obtain ⟨hs, hb⟩ := Prod.mk.inj he2
  refine wpList_buildSlice hg 30 28 1 _ ho C ie _ Try.underlying30 hie hz (by rw [hs]; decide) (by rw [hs]; decide) ?_ h
  rw [hs]
  have := Great.fill_whole (s := 41) (by decide) [Value.agg C] ((Array.range (1 * 41)).map ((Value.agg (pktV zPkt none 0 0)).cells[· % (Value.agg (pktV zPkt none 0 0)).cells.size]!)) (by simpa [Value.cells] using hC) (by simp)
  simpa [hx, Value.cells] using this
/-- some packets in a slice, and a number -/
def CutR (w : World) (l : List Pc) (er : Int) (e : Ending) (w' : World) : Prop := ∃ A n c es, e = .returned (.tuple #[.slice A n c, .int .i64 er]) ∧ PksE w' w'.heap.size A n es ∧ es.map Pe.pc = l ∧ Below w.heap.size w w'
set_option maxRecDepth 100000 in
set_option maxHeartbeats 8000000 in
theorem rcut_four_arg (p : Pkt) (A : Option Addr) (n c : Nat) (xs : List Int) (mtu id : Int) (w : World) (hp : p.Ok) (hx : Nums .u8 w w.heap.size A n xs) (hy : ∀ x ∈ xs, Byte x) (hnc : n ≤ c) (hcm : c ≤ 9223372036854775807) (hm : -9223372036854775808 ≤ mtu ∧ mtu ≤ 9223372036854775807) (hid : 0 ≤ id ∧ id ≤ 4294967295) (hn : n ≤ 2000) (hs : p.s = false) (ha : argP (p, xs) mtu = true) :
    Calls Try.prog 9 #[.agg (pktV p A n c), .int .i64 mtu, .int .u32 id] w (CutR w [] 1) := by
  have hl := hx.len
  obtain ⟨W, hW⟩ : ∃ W, W = w.alloc (.cells (pktV p A n c) 28) := ⟨_, rfl⟩
  have R := Lib.hid (show W.heap[w.heap.size]? = some (.cells (pktV p A n c) 28 (0, 0)) by rw [hW]; exact heap_alloc_new _ _)
  have HB := Lib.hid (show Below w.heap.size w W by rw [hW]; exact alloc_below _ _)
  have I := Lib.hid (pkt_info hp A n c)
  have OC := pkC.pkC hp A n c
  have KR := Lib.hid (fun w' (h : Gr W w') => (show w'.heap[w.heap.size]? = some (.cells (pktV p A n c) 28 (0, 0)) by rw [Below.block h _ (Array.getElem?_eq_some_iff.1 R.out).1]; exact R.out))
  have p0 := pkC.PkC.cell R.out (show (pktV p A n c)[0]? = some (.bool p.s) from OC.src 0 _ rfl)
  have KWH := Lib.hid (fun w' (h : Gr W w') => pkC.PkC.cell (KR.out w' h) OC.whole)
  have KLD := Lib.hid (fun w' (h : Gr W w') => pkC.PkC.cell (KR.out w' h) OC.load)
  have MC := Lib.hid (rmay_fg p A n c xs W hp hl (by omega))
  have WC := Lib.hid (fun w' => rwhole_fg p A n c xs w' hp)
  have GG := Lib.hid (show Gr W W from Below.refl _ _)
  unfold argP leastN at ha
  simp only [hs] at ha
  obtain ⟨ml, hml⟩ : ∃ b, decide (mtu < 28) = b := ⟨_, rfl⟩
  simp only [if_false, Bool.false_eq_true, Bool.false_and, Bool.or_false] at ha
  rw [hml] at ha
  generalize mayP (p, xs) = my at *
  generalize wholeP (p, xs) = wh at *
  rw [hs] at p0
  generalize p.whole = pw at *
  have h4 : my = false ∨ (my = true ∧ wh = false) ∨ (my = true ∧ wh = true ∧ ml = true) := by
    revert ha; cases my <;> cases wh <;> cases ml <;> simp
  generalize pktV p A n c = C at *
  have hml' : (ml = true → mtu < 28) ∧ (ml = false → ¬ mtu < 28) := ⟨fun h => of_decide_eq_true (hml.trans h), fun h => of_decide_eq_false (hml.trans h)⟩
  rcases h4 with rfl | ⟨rfl, rfl⟩ | ⟨rfl, rfl, rfl⟩
  all_goals
    first | have q1 := hml'.1 rfl | have q1 := hml'.2 rfl | skip
    clear hml' hs hp hx hy hnc hcm hl ha OC
    go_enter Try.func9, Try.ntmps9
    try simp only [List.append_eq, List.cons_append, List.nil_append]
    go_upto_region 1 with fail
    rw [← hW]
    clear hW
    go_wp2_with (first
      | go_skip
      | (with_reducible refine atC.at_load 28 3 ?_; refine wpList_load_rowG (by kernel_rfl) 28 (.tmp 3) rfl (w.heap.size) (by kernel_rfl) _ _ _ _ (KR.out _ GG.out) Try.underlying28 rfl I.out ?_)
      | (go_at_call 25; refine MC.out.mono ?_; rintro e w2 ⟨rfl, hb⟩
         have G2 := Lib.hid (show Gr W w2 from hb)
         clear hb)
      | (with_reducible refine atC.at_load 28 3 ?_; refine wpList_load_rowG (by kernel_rfl) 28 (.tmp 3) rfl (w.heap.size) (by kernel_rfl) _ _ _ _ (KR.out _ G2.out) Try.underlying28 rfl I.out ?_)
      | (go_at_call 26; refine (WC.out w2).mono ?_; rintro e w3 ⟨rfl, hb⟩
         have G3 := Lib.hid (show Gr W w3 from G2.out.trans (hb.mono G2.out.size))
         have kw := KWH.out w3 G3.out
         have kl := KLD.out w3 G3.out
         clear hb))
    go_ret2
    first
      | exact ⟨none, 0, 0, [], rfl, PksE.none_, rfl, HB.out.trans (Below.mono G3.out HB.out.size)⟩
      | exact ⟨none, 0, 0, [], rfl, PksE.none_, rfl, HB.out.trans (Below.mono G2.out HB.out.size)⟩
set_option maxRecDepth 100000 in
set_option maxHeartbeats 8000000 in
theorem rcut_six_arg (p : Pkt) (A : Option Addr) (n c : Nat) (xs : List Int) (mtu id : Int) (w : World) (hp : p.Ok) (hx : Nums .u8 w w.heap.size A n xs) (hy : ∀ x ∈ xs, Byte x) (hnc : n ≤ c) (hcm : c ≤ 9223372036854775807) (hm : -9223372036854775808 ≤ mtu ∧ mtu ≤ 9223372036854775807) (hid : 0 ≤ id ∧ id ≤ 4294967295) (hn : n ≤ 2000) (hs : p.s = true) (ha : argP (p, xs) mtu = true) :
    Calls Try.prog 9 #[.agg (pktV p A n c), .int .i64 mtu, .int .u32 id] w (CutR w [] 1) := by
  have hl := hx.len
  obtain ⟨W, hW⟩ : ∃ W, W = w.alloc (.cells (pktV p A n c) 28) := ⟨_, rfl⟩
  have R := Lib.hid (show W.heap[w.heap.size]? = some (.cells (pktV p A n c) 28 (0, 0)) by rw [hW]; exact heap_alloc_new _ _)
  have HB := Lib.hid (show Below w.heap.size w W by rw [hW]; exact alloc_below _ _)
  have I := Lib.hid (pkt_info hp A n c)
  have OC := pkC.pkC hp A n c
  have KR := Lib.hid (fun w' (h : Gr W w') => (show w'.heap[w.heap.size]? = some (.cells (pktV p A n c) 28 (0, 0)) by rw [Below.block h _ (Array.getElem?_eq_some_iff.1 R.out).1]; exact R.out))
  have p0 := pkC.PkC.cell R.out (show (pktV p A n c)[0]? = some (.bool p.s) from OC.src 0 _ rfl)
  have KWH := Lib.hid (fun w' (h : Gr W w') => pkC.PkC.cell (KR.out w' h) OC.whole)
  have KLD := Lib.hid (fun w' (h : Gr W w') => pkC.PkC.cell (KR.out w' h) OC.load)
  have MC := Lib.hid (rmay_fg p A n c xs W hp hl (by omega))
  have WC := Lib.hid (fun w' => rwhole_fg p A n c xs w' hp)
  have GG := Lib.hid (show Gr W W from Below.refl _ _)
  unfold argP leastN at ha
  simp only [hs] at ha
  obtain ⟨ml, hml⟩ : ∃ b, decide (mtu < 56) = b := ⟨_, rfl⟩
  simp only [if_true] at ha
  rw [hml] at ha
  generalize mayP (p, xs) = my at *
  generalize wholeP (p, xs) = wh at *
  rw [hs] at p0
  generalize p.whole = pw at *
  have h4 : my = false ∨ (my = true ∧ wh = false) ∨ (my = true ∧ wh = true ∧ ml = true) ∨ (my = true ∧ wh = true ∧ ml = false ∧ pw = false) := by
    revert ha; cases my <;> cases wh <;> cases ml <;> cases pw <;> simp
  generalize pktV p A n c = C at *
  have hml' : (ml = true → mtu < 56) ∧ (ml = false → ¬ mtu < 56) := ⟨fun h => of_decide_eq_true (hml.trans h), fun h => of_decide_eq_false (hml.trans h)⟩
  rcases h4 with rfl | ⟨rfl, rfl⟩ | ⟨rfl, rfl, rfl⟩ | ⟨rfl, rfl, rfl, rfl⟩
  all_goals
    first | have q1 := hml'.1 rfl | have q1 := hml'.2 rfl | skip
    clear hml' hs hp hx hy hnc hcm hl ha OC
    go_enter Try.func9, Try.ntmps9
    try simp only [List.append_eq, List.cons_append, List.nil_append]
    go_upto_region 1 with fail
    rw [← hW]
    clear hW
    go_wp2_with (first
      | go_skip
      | (with_reducible refine atC.at_load 28 3 ?_; refine wpList_load_rowG (by kernel_rfl) 28 (.tmp 3) rfl (w.heap.size) (by kernel_rfl) _ _ _ _ (KR.out _ GG.out) Try.underlying28 rfl I.out ?_)
      | (go_at_call 25; refine MC.out.mono ?_; rintro e w2 ⟨rfl, hb⟩
         have G2 := Lib.hid (show Gr W w2 from hb)
         clear hb)
      | (with_reducible refine atC.at_load 28 3 ?_; refine wpList_load_rowG (by kernel_rfl) 28 (.tmp 3) rfl (w.heap.size) (by kernel_rfl) _ _ _ _ (KR.out _ G2.out) Try.underlying28 rfl I.out ?_)
      | (go_at_call 26; refine (WC.out w2).mono ?_; rintro e w3 ⟨rfl, hb⟩
         have G3 := Lib.hid (show Gr W w3 from G2.out.trans (hb.mono G2.out.size))
         have kw := KWH.out w3 G3.out
         have kl := KLD.out w3 G3.out
         clear hb))
    go_ret2
    first
      | exact ⟨none, 0, 0, [], rfl, PksE.none_, rfl, HB.out.trans (Below.mono G3.out HB.out.size)⟩
      | exact ⟨none, 0, 0, [], rfl, PksE.none_, rfl, HB.out.trans (Below.mono G2.out HB.out.size)⟩
set_option maxRecDepth 100000 in
set_option maxHeartbeats 8000000 in
theorem rcut_four_ok (p : Pkt) (A : Option Addr) (n c : Nat) (xs : List Int) (mtu id : Int) (w : World) (hp : p.Ok) (hx : Nums .u8 w w.heap.size A n xs) (hy : ∀ x ∈ xs, Byte x) (hnc : n ≤ c) (hcm : c ≤ 9223372036854775807) (hm : -9223372036854775808 ≤ mtu ∧ mtu ≤ 9223372036854775807) (hid : 0 ≤ id ∧ id ≤ 4294967295) (hn : n ≤ 2000) (hs : p.s = false) (ha : argP (p, xs) mtu = false) :
    Calls Try.prog 9 #[.agg (pktV p A n c), .int .i64 mtu, .int .u32 id] w (CutR w (cutL (p, xs) mtu id) (cutE (p, xs) mtu)) := by
  have hl := hx.len
  obtain ⟨W, hW⟩ : ∃ W, W = w.alloc (.cells (pktV p A n c) 28) := ⟨_, rfl⟩
  have R := Lib.hid (show W.heap[w.heap.size]? = some (.cells (pktV p A n c) 28 (0, 0)) by rw [hW]; exact heap_alloc_new _ _)
  have HB := Lib.hid (show Below w.heap.size w W by rw [hW]; exact alloc_below _ _)
  have I := Lib.hid (pkt_info hp A n c)
  have OC := pkC.pkC hp A n c
  have KR := Lib.hid (fun w' (h : Gr W w') => (show w'.heap[w.heap.size]? = some (.cells (pktV p A n c) 28 (0, 0)) by rw [Below.block h _ (Array.getElem?_eq_some_iff.1 R.out).1]; exact R.out))
  have p0 := pkC.PkC.cell R.out (show (pktV p A n c)[0]? = some (.bool p.s) from OC.src 0 _ rfl)
  have KWH := Lib.hid (fun w' (h : Gr W w') => pkC.PkC.cell (KR.out w' h) OC.whole)
  have KLD := Lib.hid (fun w' (h : Gr W w') => pkC.PkC.cell (KR.out w' h) OC.load)
  have MC := Lib.hid (rmay_fg p A n c xs W hp hl (by omega))
  have WC := Lib.hid (fun w' => rwhole_fg p A n c xs w' hp)
  have GG := Lib.hid (show Gr W W from Below.refl _ _)
  have hcl : cutL (p, xs) mtu id = if fitsP (p, xs) mtu = true then [(p, xs)] else if (p.whole && !p.s) = true then [] else piecesP (p, xs) id (sizeN p.s mtu) xs.length 0 := by unfold cutL; rw [ha]; rfl
  have hce : cutE (p, xs) mtu = if fitsP (p, xs) mtu = true then 0 else if (p.whole && !p.s) = true then 5 else 0 := by unfold cutE; rw [ha]; rfl
  rw [hcl, hce]
  clear hcl hce
  unfold argP leastN at ha
  simp only [hs] at ha
  simp only [if_false, Bool.false_eq_true, Bool.false_and, Bool.or_false] at ha
  simp only [Bool.or_eq_false_iff, Bool.not_eq_false', decide_eq_false_iff_not] at ha
  obtain ⟨h1, h2, h3⟩ := ha
  rw [h1] at MC
  simp only [h2] at WC
  have q1 : ¬ mtu < 28 := h3
  have q1b : decide (mtu < 28) = false := decide_eq_false h3
  rw [hs] at p0
  have HM := Lib.hid (show 28 ≤ mtu ∧ mtu ≤ 9223372036854775807 from ⟨by omega, hm.2⟩)
  obtain ⟨ft, hft⟩ : ∃ f, fitsP (p, xs) mtu = f := ⟨_, rfl⟩
  rw [hft]
  unfold fitsP headN at hft
  simp only [hs, hl] at hft
  simp only [if_false, Bool.false_eq_true] at hft
  have wm : IntKind.i64.wrap (mtu - 20) = mtu - 20 := IntWalk.i64_in _ (by omega)
  have WM := Lib.hid wm
  cases ft
  rotate_left
  · have q7 : (n : Int) ≤ mtu - 20 := of_decide_eq_true hft
    rw [if_pos rfl, if_pos rfl]
    have XN := Lib.hid (fun w' (h : Gr W w') => (show Nums .u8 w' w'.heap.size A n xs from (hx.below (HB.out.trans (Below.mono h HB.out.size))).more (Nat.le_trans HB.out.size (Below.size h))))
    have HOK := Lib.hid (show (⟨p, A, n, c, xs⟩ : Pe).Ok from ⟨hp, hy, hnc, hcm⟩)
    obtain ⟨C, hC⟩ : ∃ C, C = pktV p A n c := ⟨_, rfl⟩
    simp only [← hC] at R KR MC WC I hW ⊢
    have HC := Lib.hid hC
    have SC := Lib.hid (show C.size = 41 by rw [hC]; exact OC.size)
    clear hC hs hp hx hy hnc hcm hl OC hft h1 h2 h3
    go_enter Try.func9, Try.ntmps9
    try simp only [List.append_eq, List.cons_append, List.nil_append]
    go_upto_region 1 with fail
    rw [← hW]
    clear hW
    go_upto_region 7 with (first
      | go_skip
      | (with_reducible refine atC.at_load 28 3 ?_; refine wpList_load_rowG (by kernel_rfl) 28 (.tmp 3) rfl (w.heap.size) (by kernel_rfl) _ _ _ _ (KR.out _ GG.out) Try.underlying28 rfl I.out ?_)
      | (go_at_call 25; refine MC.out.mono ?_; rintro e w2 ⟨rfl, hb⟩
         have G2 := Lib.hid (show Gr W w2 from hb)
         clear hb)
      | (with_reducible refine atC.at_load 28 3 ?_; refine wpList_load_rowG (by kernel_rfl) 28 (.tmp 3) rfl (w.heap.size) (by kernel_rfl) _ _ _ _ (KR.out _ G2.out) Try.underlying28 rfl I.out ?_)
      | (go_at_call 26; refine (WC.out w2).mono ?_; rintro e w3 ⟨rfl, hb⟩
         have G3 := Lib.hid (show Gr W w3 from G2.out.trans (hb.mono G2.out.size))
         have kw := KWH.out w3 G3.out
         have kl := KLD.out w3 G3.out
         clear hb))
    clear q1 q1b
    have R3 := Lib.hid (KR.out w3 G3.out)
    go_wp2_with (first
      | (refine wpList_load_row rfl 28 (.tmp 3) rfl (w.heap.size) rfl _ _ _ _ R3.out Try.underlying28 rfl I.out ?_)
      | (refine wpList_sliceK rfl (.tmp 49) rfl C rfl SC.out ?_))
    go_ret2
    have AB := Lib.hid (alloc_below w3 (.cells C 28))
    exact ⟨_, 1, 1, [⟨p, A, n, c, xs⟩], rfl, ⟨by
      have h9 := rowK1 (w := w3.alloc (.cells C 28)) (g := w3.heap.size) (e := ⟨p, A, n, c, xs⟩) (by rw [HC.out]; exact heap_alloc_new _ _)
      exact h9, fun e he => by obtain rfl := List.mem_singleton.1 he; exact XN.out _ (G3.out.trans (AB.out.mono G3.out.size)), fun e he => by obtain rfl := List.mem_singleton.1 he; exact HOK.out⟩, rfl, HB.out.trans (Below.mono (G3.out.trans (AB.out.mono G3.out.size)) HB.out.size)⟩
  simp only [Bool.false_eq_true, if_false]
  have q7 : ¬ (n : Int) ≤ mtu - 20 := of_decide_eq_false hft
  by_cases hpw : p.whole = true
  · have hw5 : (p.whole && !p.s) = true := by rw [hpw, hs]; rfl
    rw [if_pos hw5, if_pos hw5]
    rw [hpw] at KWH
    obtain ⟨C, hC⟩ : ∃ C, C = pktV p A n c := ⟨_, rfl⟩
    simp only [← hC] at R KR MC WC I hW ⊢
    clear hC hs hp hx hy hnc hcm hl OC hft h1 h2 h3 hpw hw5
    go_enter Try.func9, Try.ntmps9
    try simp only [List.append_eq, List.cons_append, List.nil_append]
    go_upto_region 1 with fail
    rw [← hW]
    clear hW
    go_upto_region 7 with (first
      | go_skip
      | (with_reducible refine atC.at_load 28 3 ?_; refine wpList_load_rowG (by kernel_rfl) 28 (.tmp 3) rfl (w.heap.size) (by kernel_rfl) _ _ _ _ (KR.out _ GG.out) Try.underlying28 rfl I.out ?_)
      | (go_at_call 25; refine MC.out.mono ?_; rintro e w2 ⟨rfl, hb⟩
         have G2 := Lib.hid (show Gr W w2 from hb)
         clear hb)
      | (with_reducible refine atC.at_load 28 3 ?_; refine wpList_load_rowG (by kernel_rfl) 28 (.tmp 3) rfl (w.heap.size) (by kernel_rfl) _ _ _ _ (KR.out _ G2.out) Try.underlying28 rfl I.out ?_)
      | (go_at_call 26; refine (WC.out w2).mono ?_; rintro e w3 ⟨rfl, hb⟩
         have G3 := Lib.hid (show Gr W w3 from G2.out.trans (hb.mono G2.out.size))
         have kw := KWH.out w3 G3.out
         have kl := KLD.out w3 G3.out
         clear hb))
    clear q1 q1b
    have R3 := Lib.hid (KR.out w3 G3.out)
    go_wp2_with (first | go_skip)
    go_ret2
    exact ⟨none, 0, 0, [], rfl, PksE.none_, rfl, HB.out.trans (Below.mono G3.out HB.out.size)⟩
  have hpw : p.whole = false := by simpa using hpw
  rw [hpw] at KWH
  have hw5 : ¬ (p.whole && !p.s) = true := by rw [hpw, hs]; decide
  rw [if_neg hw5, if_neg hw5]
  have hsz : sizeN p.s mtu = ((mtu - 20) / 8 * 8).toNat := by unfold sizeN pieceN; rw [hs]; rfl
  obtain ⟨sz, hsz2⟩ : ∃ k, k = sizeN p.s mtu := ⟨_, rfl⟩
  rw [← hsz2]
  rw [hsz] at hsz2
  have hszI : (sz : Int) = (mtu - 20) / 8 * 8 := by rw [hsz2]; omega
  have wp0 : IntKind.i64.wrap (mtu - 20) = mtu - 20 := IntWalk.i64_in _ (by omega)
  obtain ⟨E, hE⟩ : ∃ E : Int, E = (mtu - 20) / 8 := ⟨_, rfl⟩
  have td : (mtu - 20).tdiv 8 = E := by rw [hE, Int.tdiv_eq_ediv_of_nonneg (by omega)]
  have wE : IntKind.i64.wrap E = E := IntWalk.i64_in _ (by omega)
  have hE8 : E * 8 = (sz : Int) := by rw [hE, hszI]
  have wsz : IntKind.i64.wrap (sz : Int) = (sz : Int) := IntWalk.i64_in _ (by omega)
  have HSZ := Lib.hid (show 8 ≤ sz ∧ sz ≤ 2100 by omega)
  obtain ⟨TT, hTT⟩ : ∃ T, T = piecesP (p, xs) id sz xs.length 0 := ⟨_, rfl⟩
  rw [← hTT]
  have HTT := Lib.hid hTT
  have HL := Lib.hid hl
  have HOK := Lib.hid hp
  have HXY := Lib.hid hy
  have HS := Lib.hid hs
  have HNC := Lib.hid (show n ≤ c ∧ c ≤ 9223372036854775807 from ⟨hnc, hcm⟩)
  have HN2 := Lib.hid hn
  have HID := Lib.hid hid
  have XN := Lib.hid (fun w' (h : Gr W w') => (show Nums .u8 w' w'.heap.size A n xs from (hx.below (HB.out.trans (Below.mono h HB.out.size))).more (Nat.le_trans HB.out.size (Below.size h))))
  have hzv := zeroPktK
  have IZ := Lib.hid (show (pktV zPkt none 0 0).size = (pktV p A n c).size by rw [(pkC.pkC hp A n c).size]; rfl)
  have O1 := Lib.hid (pkt_one p A n c)
  obtain ⟨i0, hi0, hz0, hz1, hz2⟩ := info_parts byte_infK
  have I1 := Lib.hid hi0; have I2 := Lib.hid hz0; have I3 := Lib.hid hz1; have I4 := Lib.hid hz2
  have HZV := Lib.hid hzv
  clear hzv
  obtain ⟨C, hC⟩ : ∃ C, C = pktV p A n c := ⟨_, rfl⟩
  simp only [← hC] at R KR MC WC I hW O1 IZ ⊢
  have HC := Lib.hid hC
  clear hC hs hp hx hy hnc hcm hl OC hft h1 h2 h3 hpw hw5 hsz hsz2 hszI hE hTT hi0 hz0 hz1 hz2 hn hid
  go_enter Try.func9, Try.ntmps9
  try simp only [List.append_eq, List.cons_append, List.nil_append]
  go_upto_region 1 with fail
  rw [← hW]
  clear hW
  go_upto_region 7 with (first
    | go_skip
    | (with_reducible refine atC.at_load 28 3 ?_; refine wpList_load_rowG (by kernel_rfl) 28 (.tmp 3) rfl (w.heap.size) (by kernel_rfl) _ _ _ _ (KR.out _ GG.out) Try.underlying28 rfl I.out ?_)
    | (go_at_call 25; refine MC.out.mono ?_; rintro e w2 ⟨rfl, hb⟩
       have G2 := Lib.hid (show Gr W w2 from hb)
       clear hb)
    | (with_reducible refine atC.at_load 28 3 ?_; refine wpList_load_rowG (by kernel_rfl) 28 (.tmp 3) rfl (w.heap.size) (by kernel_rfl) _ _ _ _ (KR.out _ G2.out) Try.underlying28 rfl I.out ?_)
    | (go_at_call 26; refine (WC.out w2).mono ?_; rintro e w3 ⟨rfl, hb⟩
       have G3 := Lib.hid (show Gr W w3 from G2.out.trans (hb.mono G2.out.size))
       have kw := KWH.out w3 G3.out
       have kl := KLD.out w3 G3.out
       clear hb))
  clear q1 q1b
  go_upto_region 12 with (first | go_skip)
  clear kw kl wp0 td wE hE8 wsz q7 wm
  go_upto_region 14 with fail
  have G0 := Lib.hid (show Gr W w3 from G3.out)
  clear MC WC G2 G3 GG p0
  go_loopw [13, 14] (fun u v wr => ∃ (k f : Nat) (es : List Pe) (A' : Option Addr) (c' : Nat), v = .int .i64 k ∧ k ≤ 5000 ∧ es.length ≤ k ∧ u = .slice A' es.length c' ∧ OwnK wr W.heap.size (.slice A' es.length c') es ∧ (∀ e ∈ es, Own .u8 5 wr W.heap.size (.slice e.A e.n e.c) e.x ∧ e.Ok) ∧ n ≤ k + f ∧ es.map Pe.pc ++ piecesP (p, xs) id sz f k = TT ∧ Gr W wr) (fun u v _ => n - (intOf v).toNat)
  case atStart => exact ⟨0, xs.length, [], none, 0, rfl, by omega, by simp, rfl, OwnK.nil _ _, by simp, by rw [HL.out]; omega, by rw [HTT.out]; rfl, G0.out⟩
  case round =>
    obtain ⟨k, f, es, A', c', rfl, hk5, hek, rfl, hown, hles, hnf, hTe, hgr⟩ := hrel
    have hld := KLD.out wr hgr
    have HOW := Lib.hid hown
    have HLE := Lib.hid hles
    have HTE := Lib.hid hTe
    have HGR := Lib.hid hgr
    by_cases hkn : k < n
    rotate_left
    · have q6 : ¬ (k : Int) < (n : Int) := by omega
      have hfin : es.map Pe.pc = TT := by
        rw [← HTE.out]
        have : piecesP (p, xs) id sz f k = [] := by
          cases f with
          | zero => rfl
          | succ f => unfold piecesP; rw [if_neg (by show ¬ k < xs.length; rw [HL.out]; exact hkn)]
        rw [this, List.append_nil]
      have HF := Lib.hid hfin
      clear hown hles hnf hTe hgr hkn hfin
      go_wp2_with fail
      go_ret2
      obtain ⟨A2, c2, e2, g1, g2, RK⟩ := HOW.out.form (fun e he => (HLE.out e he).2.p)
      cases e2
      exact ⟨A', _, c', es, rfl, ⟨RK, fun e he => (HLE.out e he).1.nums, fun e he => (HLE.out e he).2⟩, HF.out, HB.out.trans (Below.mono HGR.out HB.out.size)⟩
    have q6 : (k : Int) < (n : Int) := by omega
    obtain ⟨f', rfl⟩ : ∃ f', f = f' + 1 := ⟨f - 1, by omega⟩
    have hte := hTe
    unfold piecesP at hte
    rw [if_pos (by show k < xs.length; rw [HL.out]; exact hkn)] at hte
    have HTE2 := Lib.hid hte
    have HKN := Lib.hid (show k < n ∧ k ≤ 5000 ∧ es.length ≤ k ∧ n ≤ k + (f' + 1) from ⟨hkn, hk5, hek, hnf⟩)
    have RR := Lib.hid (KR.out wr hgr)
    obtain ⟨g, hg⟩ : ∃ g, g = wr.heap.size := ⟨_, rfl⟩
    have HGQ := Lib.hid hg
    have HWG := Lib.hid (show W.heap.size ≤ g by rw [hg]; exact Below.size hgr)
    have hzv := HZV.out
    clear hown hles hnf hTe hgr hkn hte hk5 hek HTE hg
    go_upto_region 16 with fail
    clear q6 hld
    go_upto_region 17 with (first
      | (refine wpList_load_row rfl 28 (.tmp 3) rfl (w.heap.size) rfl _ _ _ _ RR.out Try.underlying28 rfl I.out ?_)
      | (refine wpList_store_row rfl 28 (.tmp 15) (.tmp 70) rfl wr.heap.size C rfl rfl _ _ (heap_alloc_new _ _) I.out IZ.out O1.out ?_; rw [World.setRow_alloc_new]))
    have AB1 := Lib.hid (alloc_below wr (.cells C 28))
    have T1 := Lib.hid (show Qb w (wr.alloc (.cells C 28)) g p A n c from ⟨by rw [HGQ.out, HC.out]; exact heap_alloc_new _ _, (HB.out.trans (Below.mono HGR.out HB.out.size)).trans (AB1.out.mono (Nat.le_trans HB.out.size (Below.size HGR.out))), Nat.le_trans HB.out.size HWG.out, HOK.out⟩)
    have G1 := Lib.hid (show Gr W (wr.alloc (.cells C 28)) from HGR.out.trans (AB1.out.mono (Below.size HGR.out)))
    have BG1 := Lib.hid (show Below g wr (wr.alloc (.cells C 28)) by rw [HGQ.out]; exact AB1.out)
    rw [← HGQ.out]
    clear RR AB1 hzv
    generalize wr.alloc (.cells C 28) = w1 at *
    have c37 := T1.out.cell 3 _ rfl
    have c39 := T1.out.cell 5 _ rfl
    have f37 := T1.out.frozen 3
    have f39 := T1.out.frozen 5
    go_upto_region 18 with fail
    have T2 := Lib.hid (show Qb w ((w1.setCell ⟨g, 37, none⟩ (.bool false)).setCell ⟨g, 39, none⟩ (.int .i64 k)) g { p with whole := false, off := (k : Int) } A n c from
      (show Qb w (w1.setCell ⟨g, 37, none⟩ (.bool false)) g { p with whole := false } A n c from T1.out.set_ 3 (.bool false) rfl ⟨rfl, rfl, rfl, rfl⟩ ⟨T1.out.ok.la, T1.out.ok.lb, T1.out.ok.ya, T1.out.ok.yb, T1.out.ok.proto, T1.out.ok.hops, T1.out.ok.id, T1.out.ok.off⟩).set_ 5 (.int .i64 k) rfl ⟨rfl, rfl, rfl, rfl⟩ ⟨T1.out.ok.la, T1.out.ok.lb, T1.out.ok.ya, T1.out.ok.yb, T1.out.ok.proto, T1.out.ok.hops, T1.out.ok.id, by have := HKN.out; show (-9223372036854775808 : Int) ≤ (k : Int) ∧ (k : Int) ≤ 9223372036854775807; omega⟩)
    have DB : Below g w1 ((w1.setCell ⟨g, 37, none⟩ (.bool false)).setCell ⟨g, 39, none⟩ (.int .i64 k)) := ((Below.refl g w1).setCell (p := ⟨g, 37, none⟩) (Nat.le_refl _) _).setCell (p := ⟨g, 39, none⟩) (Nat.le_refl _) _
    have G2 := Lib.hid (show Gr W ((w1.setCell ⟨g, 37, none⟩ (.bool false)).setCell ⟨g, 39, none⟩ (.int .i64 k)) from Below.trans G1.out (DB.mono HWG.out))
    have BG2 := Lib.hid (Below.trans BG1.out DB)
    clear c37 c39 f37 f39 T1 DB G1 BG1
    generalize (w1.setCell ⟨g, 37, none⟩ (.bool false)).setCell ⟨g, 39, none⟩ (.int .i64 k) = w2 at *
    go_upto_region 20 with fail
    have T3 := T2
    have G3 := G2
    have BG3 := BG2
    clear T2 G2 BG2
    obtain ⟨w3, hw3⟩ : ∃ q, q = w2 := ⟨_, rfl⟩
    rw [← hw3] at T3 G3 BG3 ⊢
    clear hw3
    have hld := KLD.out w3 G3.out
    obtain ⟨K2, hK2⟩ : ∃ q, q = k + sz := ⟨_, rfl⟩
    have hadd : (k : Int) + (sz : Int) = (K2 : Int) := by omega
    have wK2 : IntKind.i64.wrap (K2 : Int) = (K2 : Int) := IntWalk.i64_in _ (by have := HKN.out; have := HSZ.out; omega)
    obtain ⟨E2, hE2⟩ : ∃ q, q = min K2 n := ⟨_, rfl⟩
    have hmin : (if (n : Int) < (K2 : Int) then (n : Int) else (K2 : Int)) = (E2 : Int) := by split <;> omega
    have hminN : (if n < K2 then (n : Int) else (K2 : Int)) = (E2 : Int) := by split <;> omega
    have HK2 := Lib.hid hK2
    have HE2 := Lib.hid hE2
    have HKE := Lib.hid (show k < E2 ∧ E2 ≤ n ∧ K2 ≤ 8000 by have := HKN.out; have := HSZ.out; omega)
    have WK2 := Lib.hid wK2
    have HADD := Lib.hid hadd
    clear hK2 hE2
    go_upto_region 21 with fail
    clear hadd wK2 hmin hminN
    obtain ⟨mo, hmo⟩ : ∃ b, decide ((E2 : Int) < (n : Int)) = b := ⟨_, rfl⟩
    have c38 := T3.out.cell 4 _ rfl
    have f38 := T3.out.frozen 4
    have HMO := Lib.hid hmo
    have hmoN : decide (E2 < n) = mo := by rw [← hmo]; exact decide_eq_decide.2 ⟨fun h => by omega, fun h => by omega⟩
    go_upto_region 22 with fail
    have T4 := Lib.hid (show Qb w (w3.setCell ⟨g, 38, none⟩ (.bool mo)) g { p with whole := false, off := (k : Int), more := mo } A n c from T3.out.set_ 4 (.bool mo) rfl ⟨rfl, rfl, rfl, rfl⟩ ⟨T3.out.ok.la, T3.out.ok.lb, T3.out.ok.ya, T3.out.ok.yb, T3.out.ok.proto, T3.out.ok.hops, T3.out.ok.id, T3.out.ok.off⟩)
    have G4 := Lib.hid (show Gr W (w3.setCell ⟨g, 38, none⟩ (.bool mo)) from Below.setCell G3.out (p := ⟨g, 38, none⟩) HWG.out _)
    have BG4 := Lib.hid (show Below g wr (w3.setCell ⟨g, 38, none⟩ (.bool mo)) from BG3.out.setCell (p := ⟨g, 38, none⟩) (Nat.le_refl _) _)
    clear c38 f38 T3 G3 BG3 hmo hmoN hld
    generalize w3.setCell ⟨g, 38, none⟩ (.bool mo) = w4 at *
    have hld := KLD.out w4 G4.out
    obtain ⟨n9, hn9⟩ : ∃ q, q = E2 - k := ⟨_, rfl⟩
    have hsc : (Instr.slice 26 (.slice A n c) (some (.int .i64 (k : Int))) (some (.int .i64 (E2 : Int))) none).run Try.prog w4 = .ok (.slice (A.map (·.add k)) n9 (c - k)) w4 := by
      have h9 := pkC.cut_two A n c k E2 (by have := HKE.out; omega) (by have := HKE.out; have := HNC.out; omega) w4
      rw [if_neg (by have := HKN.out; have := HNC.out; omega), ← hn9] at h9
      exact h9
    have hzl : ((xs.drop k).take sz).length = n9 := by
      rw [List.length_take, List.length_drop, HL.out]
      have := HK2.out; have := HE2.out; omega
    have NX9 := Lib.hid (show Nums .u8 w4 w4.heap.size (A.map (·.add k)) n9 ((xs.drop k).take sz) by
      have h9 := partNK (XN.out w4 G4.out) (k := k) (d := c) (by have := HKN.out; omega) (by have := HNC.out; omega)
      rw [if_neg (by have := HKN.out; have := HNC.out; omega)] at h9
      have h8 := h9.upto (show n9 ≤ n - k by have := HKE.out; omega)
      have e8 : (xs.drop k).take n9 = (xs.drop k).take sz := by
        have hq := hzl
        rw [List.length_take] at hq
        rcases Nat.le_total sz (xs.drop k).length with q | q
        · rw [show n9 = sz by omega]
        · rw [List.take_of_length_le (i := n9) (by omega), List.take_of_length_le (i := sz) q]
      rw [e8] at h8
      exact h8)
    have HZL := Lib.hid hzl
    have HYZ := Lib.hid (show ∀ x ∈ (xs.drop k).take sz, Byte x from fun x hx => HXY.out x (List.mem_of_mem_drop (List.mem_of_mem_take hx)))
    have HZP := Lib.hid (show ({ p with whole := false, off := (k : Int), more := mo }, (xs.drop k).take sz) = pieceP (p, xs) id sz k by
      unfold pieceP
      simp only [HS.out]
      rw [show decide (k + sz < xs.length) = mo by rw [← HMO.out, HL.out]; have := HK2.out; have := HE2.out; exact decide_eq_decide.2 ⟨fun h => by omega, fun h => by omega⟩]
      rfl)
    have N9 := Lib.hid (show n9 ≤ 3000 by have := HKE.out; have := HN2.out; omega)
    generalize (xs.drop k).take sz = zs at *
    clear hzl hn9
    go_upto_region 23 with (first
      | (at_builtin
         (refine wpList_app _ rfl (.const (.slice none 0 0)) (.tmp 94) _ rfl 5 i0 _ 1 Try.underlying26 I1.out I2.out I3.out I4.out rfl w4.heap.size _ [] rfl (Own.nil _ _) w4.heap.size _ n9 (c - k) zs rfl NX9.out (by rw [List.length_nil]; have := N9.out; unfold maxLen; omega) (by rw [List.length_nil]; have := N9.out; omega) (Nat.le_refl _) ?_)
         intro v5 w5 O hg
         have B5 := Lib.hid (show Below w4.heap.size w4 w5 from (Below.refl w4.heap.size w4).grown hg (Nat.le_refl _) fun q hq => ((Own.nil _ _ : Own .u8 5 w4 w4.heap.size (.slice none 0 0) []).blk q hq).1)
         rw [List.nil_append] at O
         obtain ⟨A5, c5, ev, g51, g52, -⟩ := O.form
         rw [HZL.out] at ev g51
         subst ev
         have HO5 := Lib.hid O
         have LC5 := Lib.hid (show n9 ≤ c5 ∧ c5 ≤ 9223372036854775807 from ⟨g51, by unfold maxLen at g52; omega⟩)
         have T5 := Lib.hid (T4.out.below B5.out)
         have c40 := T5.out.cell 6 _ rfl
         have f40 := T5.out.frozen 6
         clear O hg g51 g52))
    have SB4 := Lib.hid (show g ≤ w4.heap.size by have := BG4.out.size; have := HGQ.out; omega)
    have T6 := Lib.hid (show Qb w (w5.setCell ⟨g, 40, none⟩ (.slice A5 n9 c5)) g { p with whole := false, off := (k : Int), more := mo } A5 n9 c5 from T5.out.set_ 6 (.slice A5 n9 c5) rfl ⟨rfl, rfl, rfl, rfl⟩ T5.out.ok)
    have G6 := Lib.hid (show Gr W (w5.setCell ⟨g, 40, none⟩ (.slice A5 n9 c5)) from Below.setCell (Below.trans G4.out (B5.out.mono (Below.size G4.out))) (p := ⟨g, 40, none⟩) HWG.out _)
    have BG6 := Lib.hid (show Below g wr (w5.setCell ⟨g, 40, none⟩ (.slice A5 n9 c5)) from (BG4.out.trans (B5.out.mono SB4.out)).setCell (p := ⟨g, 40, none⟩) (Nat.le_refl _) _)
    have HO6 := Lib.hid (show Own .u8 5 (w5.setCell ⟨g, 40, none⟩ (.slice A5 n9 c5)) w4.heap.size (.slice A5 n9 c5) zs from HO5.out.keep fun q g1 g2 => Below.heap_setCell _ _ _ _ (by show q ≠ g; have := T4.out.row; have := (Array.getElem?_eq_some_iff.1 this).1; omega))
    clear c40 f40 T4 G4 BG4 B5 T5 HO5 NX9 hld
    generalize w5.setCell ⟨g, 40, none⟩ (.slice A5 n9 c5) = w6 at *
    have ICX := Lib.hid (pkt_info T6.out.ok A5 n9 c5)
    have SCX := Lib.hid (show (pktV { p with whole := false, off := (k : Int), more := mo } A5 n9 c5).size = 41 from (pkC.pkC T6.out.ok A5 n9 c5).size)
    have R6 := Lib.hid T6.out.row
    have OKX := Lib.hid T6.out.ok
    obtain ⟨px, hpx⟩ : ∃ q, q = ({ p with whole := false, off := (k : Int), more := mo } : Pkt) := ⟨_, rfl⟩
    rw [← hpx] at HZP ICX SCX R6 OKX
    clear hpx T6
    have AB7 := Lib.hid (alloc_below w6 (.cells (pktV px A5 n9 c5) 28))
    have RK7 := Lib.hid (rowK1 (w := w6.alloc (.cells (pktV px A5 n9 c5) 28)) (g := w6.heap.size) (e := ⟨px, A5, n9, c5, zs⟩) (heap_alloc_new _ _))
    have SB6 := Lib.hid (show g ≤ w6.heap.size by have := BG6.out.size; have := HGQ.out; omega)
    have BG7 := Lib.hid (BG6.out.trans (AB7.out.mono SB6.out))
    have HOW7 := Lib.hid (HOW.out.keep (w' := w6.alloc (.cells (pktV px A5 n9 c5) 28)) fun q g1 g2 => BG7.out.block q (by have := HGQ.out; omega))
    have HLE7 := Lib.hid (fun e he => (HLE.out e he).1.keep (w' := w6.alloc (.cells (pktV px A5 n9 c5) 28)) fun q g1 g2 => BG7.out.block q (by have := HGQ.out; omega))
    have HOX7 := Lib.hid ((HO6.out.below AB7.out).less (show W.heap.size ≤ w4.heap.size by have := SB4.out; have := HWG.out; omega))
    have G7 := Lib.hid (show Gr W (w6.alloc (.cells (pktV px A5 n9 c5) 28)) from Below.trans G6.out (AB7.out.mono (Below.size G6.out)))
    have HL9 := Lib.hid (show es.length + 1 = (es ++ [(⟨px, A5, n9, c5, zs⟩ : Pe)]).length by rw [List.length_append]; rfl)
    generalize hCX : pktV px A5 n9 c5 = CX at *
    clear hCX
    go_upto_region 15 with (first
      | (refine wpList_load_row rfl 28 (.tmp 15) rfl g rfl _ _ _ _ R6.out Try.underlying28 rfl ICX.out ?_)
      | (refine wpList_sliceK rfl (.tmp 98) rfl CX rfl SCX.out ?_)
      | (at_builtin
         (refine wpList_appK _ rfl (.tmp 97) (.tmp 99) rfl W.heap.size _ es rfl HOW7.out (fun e he => (HLE.out e he).2.p) _ _ 1 1 [⟨px, A5, n9, c5, zs⟩] rfl RK7.out (fun e he => by obtain rfl := List.mem_singleton.1 he; exact OKX.out) (by have := HKN.out; omega) (by decide) (Below.size G7.out) _ HL9.out ?_)
         intro A8 c8 w8 gl O8 B8 GR8
         have HO8 := Lib.hid O8
         have G8 := Lib.hid (show Gr W w8 from Below.trans G7.out (B8.mono (Nat.le_refl _)))
         have HLE8 := Lib.hid (fun e (he : e ∈ es ++ [⟨px, A5, n9, c5, zs⟩]) => (show Own .u8 5 w8 W.heap.size (.slice e.A e.n e.c) e.x ∧ e.Ok by
           rcases List.mem_append.1 he with h | h
           · exact ⟨own_grownK (HLE7.out e h) HOW7.out GR8, (HLE.out e h).2⟩
           · obtain rfl := List.mem_singleton.1 h
             exact ⟨own_grownK HOX7.out HOW7.out GR8, ⟨OKX.out, HYZ.out, LC5.out.1, LC5.out.2⟩⟩))
         clear gl O8 B8 GR8))
    have hadd := HADD.out
    have wK2 := WK2.out
    go_wp2_with fail
    go_roundw
    case rel =>
      refine ⟨K2, f', es ++ [⟨px, A5, n9, c5, zs⟩], A8, c8, by trivial, ?_, ?_, by rw [HL9.out], HO8.out, HLE8.out, ?_, ?_, G8.out⟩
      · have := HKN.out; have := HSZ.out; have := HK2.out; have := HN2.out; omega
      · rw [← HL9.out]; have := HKN.out; have := HSZ.out; have := HK2.out; omega
      · have := HKN.out; have := HSZ.out; have := HK2.out; omega
      · rw [List.map_append, List.append_assoc, HK2.out]
        have h9 := HTE2.out
        rw [← HZP.out] at h9
        exact h9
    case measure => have := HKN.out; have := HSZ.out; have := HK2.out; simp [intOf]; omega
set_option maxRecDepth 100000 in
set_option maxHeartbeats 8000000 in
theorem rcut_six_ok (p : Pkt) (A : Option Addr) (n c : Nat) (xs : List Int) (mtu id : Int) (w : World) (hp : p.Ok) (hx : Nums .u8 w w.heap.size A n xs) (hy : ∀ x ∈ xs, Byte x) (hnc : n ≤ c) (hcm : c ≤ 9223372036854775807) (hm : -9223372036854775808 ≤ mtu ∧ mtu ≤ 9223372036854775807) (hid : 0 ≤ id ∧ id ≤ 4294967295) (hn : n ≤ 2000) (hs : p.s = true) (ha : argP (p, xs) mtu = false) :
    Calls Try.prog 9 #[.agg (pktV p A n c), .int .i64 mtu, .int .u32 id] w (CutR w (cutL (p, xs) mtu id) (cutE (p, xs) mtu)) := by
  have hl := hx.len
  obtain ⟨W, hW⟩ : ∃ W, W = w.alloc (.cells (pktV p A n c) 28) := ⟨_, rfl⟩
  have R := Lib.hid (show W.heap[w.heap.size]? = some (.cells (pktV p A n c) 28 (0, 0)) by rw [hW]; exact heap_alloc_new _ _)
  have HB := Lib.hid (show Below w.heap.size w W by rw [hW]; exact alloc_below _ _)
  have I := Lib.hid (pkt_info hp A n c)
  have OC := pkC.pkC hp A n c
  have KR := Lib.hid (fun w' (h : Gr W w') => (show w'.heap[w.heap.size]? = some (.cells (pktV p A n c) 28 (0, 0)) by rw [Below.block h _ (Array.getElem?_eq_some_iff.1 R.out).1]; exact R.out))
  have p0 := pkC.PkC.cell R.out (show (pktV p A n c)[0]? = some (.bool p.s) from OC.src 0 _ rfl)
  have KWH := Lib.hid (fun w' (h : Gr W w') => pkC.PkC.cell (KR.out w' h) OC.whole)
  have KLD := Lib.hid (fun w' (h : Gr W w') => pkC.PkC.cell (KR.out w' h) OC.load)
  have MC := Lib.hid (rmay_fg p A n c xs W hp hl (by omega))
  have WC := Lib.hid (fun w' => rwhole_fg p A n c xs w' hp)
  have GG := Lib.hid (show Gr W W from Below.refl _ _)
  have hcl : cutL (p, xs) mtu id = if fitsP (p, xs) mtu = true then [(p, xs)] else if (p.whole && !p.s) = true then [] else piecesP (p, xs) id (sizeN p.s mtu) xs.length 0 := by unfold cutL; rw [ha]; rfl
  have hce : cutE (p, xs) mtu = if fitsP (p, xs) mtu = true then 0 else if (p.whole && !p.s) = true then 5 else 0 := by unfold cutE; rw [ha]; rfl
  rw [hcl, hce]
  clear hcl hce
  unfold argP leastN at ha
  simp only [hs] at ha
  simp only [if_true] at ha
  simp only [Bool.or_eq_false_iff, Bool.not_eq_false', decide_eq_false_iff_not, Bool.and_eq_false_iff, Bool.true_eq_false, false_or] at ha
  obtain ⟨h1, h2, h3, h4⟩ := ha
  rw [h1] at MC
  simp only [h2] at WC
  have q1 : ¬ mtu < 56 := h3
  have q1b : decide (mtu < 56) = false := decide_eq_false h3
  rw [hs] at p0
  rw [h4] at KWH
  have HPW := Lib.hid h4
  have HM := Lib.hid (show 56 ≤ mtu ∧ mtu ≤ 9223372036854775807 from ⟨by omega, hm.2⟩)
  obtain ⟨ft, hft⟩ : ∃ f, fitsP (p, xs) mtu = f := ⟨_, rfl⟩
  rw [hft]
  unfold fitsP headN at hft
  simp only [hs, hl] at hft
  simp only [if_true] at hft
  have wm : IntKind.i64.wrap (mtu - 40) = mtu - 40 := IntWalk.i64_in _ (by omega)
  have WM := Lib.hid wm
  cases ft
  rotate_left
  · have q7 : (n : Int) ≤ mtu - 40 := of_decide_eq_true hft
    rw [if_pos rfl, if_pos rfl]
    have XN := Lib.hid (fun w' (h : Gr W w') => (show Nums .u8 w' w'.heap.size A n xs from (hx.below (HB.out.trans (Below.mono h HB.out.size))).more (Nat.le_trans HB.out.size (Below.size h))))
    have HOK := Lib.hid (show (⟨p, A, n, c, xs⟩ : Pe).Ok from ⟨hp, hy, hnc, hcm⟩)
    obtain ⟨C, hC⟩ : ∃ C, C = pktV p A n c := ⟨_, rfl⟩
    simp only [← hC] at R KR MC WC I hW ⊢
    have HC := Lib.hid hC
    have SC := Lib.hid (show C.size = 41 by rw [hC]; exact OC.size)
    clear hC hs hp hx hy hnc hcm hl OC hft h1 h2 h3
    go_enter Try.func9, Try.ntmps9
    try simp only [List.append_eq, List.cons_append, List.nil_append]
    go_upto_region 1 with fail
    rw [← hW]
    clear hW
    go_upto_region 7 with (first
      | go_skip
      | (with_reducible refine atC.at_load 28 3 ?_; refine wpList_load_rowG (by kernel_rfl) 28 (.tmp 3) rfl (w.heap.size) (by kernel_rfl) _ _ _ _ (KR.out _ GG.out) Try.underlying28 rfl I.out ?_)
      | (go_at_call 25; refine MC.out.mono ?_; rintro e w2 ⟨rfl, hb⟩
         have G2 := Lib.hid (show Gr W w2 from hb)
         clear hb)
      | (with_reducible refine atC.at_load 28 3 ?_; refine wpList_load_rowG (by kernel_rfl) 28 (.tmp 3) rfl (w.heap.size) (by kernel_rfl) _ _ _ _ (KR.out _ G2.out) Try.underlying28 rfl I.out ?_)
      | (go_at_call 26; refine (WC.out w2).mono ?_; rintro e w3 ⟨rfl, hb⟩
         have G3 := Lib.hid (show Gr W w3 from G2.out.trans (hb.mono G2.out.size))
         have kw := KWH.out w3 G3.out
         have kl := KLD.out w3 G3.out
         clear hb))
    clear q1 q1b
    have R3 := Lib.hid (KR.out w3 G3.out)
    go_wp2_with (first
      | (refine wpList_load_row rfl 28 (.tmp 3) rfl (w.heap.size) rfl _ _ _ _ R3.out Try.underlying28 rfl I.out ?_)
      | (refine wpList_sliceK rfl (.tmp 49) rfl C rfl SC.out ?_))
    go_ret2
    have AB := Lib.hid (alloc_below w3 (.cells C 28))
    exact ⟨_, 1, 1, [⟨p, A, n, c, xs⟩], rfl, ⟨by
      have h9 := rowK1 (w := w3.alloc (.cells C 28)) (g := w3.heap.size) (e := ⟨p, A, n, c, xs⟩) (by rw [HC.out]; exact heap_alloc_new _ _)
      exact h9, fun e he => by obtain rfl := List.mem_singleton.1 he; exact XN.out _ (G3.out.trans (AB.out.mono G3.out.size)), fun e he => by obtain rfl := List.mem_singleton.1 he; exact HOK.out⟩, rfl, HB.out.trans (Below.mono (G3.out.trans (AB.out.mono G3.out.size)) HB.out.size)⟩
  simp only [Bool.false_eq_true, if_false]
  have q7 : ¬ (n : Int) ≤ mtu - 40 := of_decide_eq_false hft
  have hw5 : ¬ (p.whole && !p.s) = true := by rw [h4, hs]; decide
  rw [if_neg hw5, if_neg hw5]
  have hsz : sizeN p.s mtu = ((mtu - 48) / 8 * 8).toNat := by unfold sizeN pieceN; rw [hs]; rfl
  obtain ⟨sz, hsz2⟩ : ∃ k, k = sizeN p.s mtu := ⟨_, rfl⟩
  rw [← hsz2]
  rw [hsz] at hsz2
  have hszI : (sz : Int) = (mtu - 48) / 8 * 8 := by rw [hsz2]; omega
  have wp0 : IntKind.i64.wrap (mtu - 48) = mtu - 48 := IntWalk.i64_in _ (by omega)
  obtain ⟨E, hE⟩ : ∃ E : Int, E = (mtu - 48) / 8 := ⟨_, rfl⟩
  have td : (mtu - 48).tdiv 8 = E := by rw [hE, Int.tdiv_eq_ediv_of_nonneg (by omega)]
  have wE : IntKind.i64.wrap E = E := IntWalk.i64_in _ (by omega)
  have hE8 : E * 8 = (sz : Int) := by rw [hE, hszI]
  have wsz : IntKind.i64.wrap (sz : Int) = (sz : Int) := IntWalk.i64_in _ (by omega)
  have HSZ := Lib.hid (show 8 ≤ sz ∧ sz ≤ 2100 by omega)
  obtain ⟨TT, hTT⟩ : ∃ T, T = piecesP (p, xs) id sz xs.length 0 := ⟨_, rfl⟩
  rw [← hTT]
  have HTT := Lib.hid hTT
  have HL := Lib.hid hl
  have HOK := Lib.hid hp
  have HXY := Lib.hid hy
  have HS := Lib.hid hs
  have HNC := Lib.hid (show n ≤ c ∧ c ≤ 9223372036854775807 from ⟨hnc, hcm⟩)
  have HN2 := Lib.hid hn
  have HID := Lib.hid hid
  have XN := Lib.hid (fun w' (h : Gr W w') => (show Nums .u8 w' w'.heap.size A n xs from (hx.below (HB.out.trans (Below.mono h HB.out.size))).more (Nat.le_trans HB.out.size (Below.size h))))
  have hzv := zeroPktK
  have IZ := Lib.hid (show (pktV zPkt none 0 0).size = (pktV p A n c).size by rw [(pkC.pkC hp A n c).size]; rfl)
  have O1 := Lib.hid (pkt_one p A n c)
  obtain ⟨i0, hi0, hz0, hz1, hz2⟩ := info_parts byte_infK
  have I1 := Lib.hid hi0; have I2 := Lib.hid hz0; have I3 := Lib.hid hz1; have I4 := Lib.hid hz2
  have HZV := Lib.hid hzv
  clear hzv
  obtain ⟨C, hC⟩ : ∃ C, C = pktV p A n c := ⟨_, rfl⟩
  simp only [← hC] at R KR MC WC I hW O1 IZ ⊢
  have HC := Lib.hid hC
  clear hC hs hp hx hy hnc hcm hl OC hft h1 h2 h3 h4 hw5 hsz hsz2 hszI hE hTT hi0 hz0 hz1 hz2 hn hid
  go_enter Try.func9, Try.ntmps9
  try simp only [List.append_eq, List.cons_append, List.nil_append]
  go_upto_region 1 with fail
  rw [← hW]
  clear hW
  go_upto_region 7 with (first
    | go_skip
    | (with_reducible refine atC.at_load 28 3 ?_; refine wpList_load_rowG (by kernel_rfl) 28 (.tmp 3) rfl (w.heap.size) (by kernel_rfl) _ _ _ _ (KR.out _ GG.out) Try.underlying28 rfl I.out ?_)
    | (go_at_call 25; refine MC.out.mono ?_; rintro e w2 ⟨rfl, hb⟩
       have G2 := Lib.hid (show Gr W w2 from hb)
       clear hb)
    | (with_reducible refine atC.at_load 28 3 ?_; refine wpList_load_rowG (by kernel_rfl) 28 (.tmp 3) rfl (w.heap.size) (by kernel_rfl) _ _ _ _ (KR.out _ G2.out) Try.underlying28 rfl I.out ?_)
    | (go_at_call 26; refine (WC.out w2).mono ?_; rintro e w3 ⟨rfl, hb⟩
       have G3 := Lib.hid (show Gr W w3 from G2.out.trans (hb.mono G2.out.size))
       have kw := KWH.out w3 G3.out
       have kl := KLD.out w3 G3.out
       clear hb))
  clear q1 q1b
  go_upto_region 12 with (first | go_skip)
  clear kw kl wp0 td wE hE8 wsz q7 wm
  go_upto_region 14 with fail
  have G0 := Lib.hid (show Gr W w3 from G3.out)
  clear MC WC G2 G3 GG p0
  go_loopw [13, 14] (fun u v wr => ∃ (k f : Nat) (es : List Pe) (A' : Option Addr) (c' : Nat), v = .int .i64 k ∧ k ≤ 5000 ∧ es.length ≤ k ∧ u = .slice A' es.length c' ∧ OwnK wr W.heap.size (.slice A' es.length c') es ∧ (∀ e ∈ es, Own .u8 5 wr W.heap.size (.slice e.A e.n e.c) e.x ∧ e.Ok) ∧ n ≤ k + f ∧ es.map Pe.pc ++ piecesP (p, xs) id sz f k = TT ∧ Gr W wr) (fun u v _ => n - (intOf v).toNat)
  case atStart => exact ⟨0, xs.length, [], none, 0, rfl, by omega, by simp, rfl, OwnK.nil _ _, by simp, by rw [HL.out]; omega, by rw [HTT.out]; rfl, G0.out⟩
  case round =>
    obtain ⟨k, f, es, A', c', rfl, hk5, hek, rfl, hown, hles, hnf, hTe, hgr⟩ := hrel
    have hld := KLD.out wr hgr
    have HOW := Lib.hid hown
    have HLE := Lib.hid hles
    have HTE := Lib.hid hTe
    have HGR := Lib.hid hgr
    by_cases hkn : k < n
    rotate_left
    · have q6 : ¬ (k : Int) < (n : Int) := by omega
      have hfin : es.map Pe.pc = TT := by
        rw [← HTE.out]
        have : piecesP (p, xs) id sz f k = [] := by
          cases f with
          | zero => rfl
          | succ f => unfold piecesP; rw [if_neg (by show ¬ k < xs.length; rw [HL.out]; exact hkn)]
        rw [this, List.append_nil]
      have HF := Lib.hid hfin
      clear hown hles hnf hTe hgr hkn hfin
      go_wp2_with fail
      go_ret2
      obtain ⟨A2, c2, e2, g1, g2, RK⟩ := HOW.out.form (fun e he => (HLE.out e he).2.p)
      cases e2
      exact ⟨A', _, c', es, rfl, ⟨RK, fun e he => (HLE.out e he).1.nums, fun e he => (HLE.out e he).2⟩, HF.out, HB.out.trans (Below.mono HGR.out HB.out.size)⟩
    have q6 : (k : Int) < (n : Int) := by omega
    obtain ⟨f', rfl⟩ : ∃ f', f = f' + 1 := ⟨f - 1, by omega⟩
    have hte := hTe
    unfold piecesP at hte
    rw [if_pos (by show k < xs.length; rw [HL.out]; exact hkn)] at hte
    have HTE2 := Lib.hid hte
    have HKN := Lib.hid (show k < n ∧ k ≤ 5000 ∧ es.length ≤ k ∧ n ≤ k + (f' + 1) from ⟨hkn, hk5, hek, hnf⟩)
    have RR := Lib.hid (KR.out wr hgr)
    obtain ⟨g, hg⟩ : ∃ g, g = wr.heap.size := ⟨_, rfl⟩
    have HGQ := Lib.hid hg
    have HWG := Lib.hid (show W.heap.size ≤ g by rw [hg]; exact Below.size hgr)
    have hzv := HZV.out
    clear hown hles hnf hTe hgr hkn hte hk5 hek HTE hg
    go_upto_region 16 with fail
    clear q6 hld
    go_upto_region 17 with (first
      | (refine wpList_load_row rfl 28 (.tmp 3) rfl (w.heap.size) rfl _ _ _ _ RR.out Try.underlying28 rfl I.out ?_)
      | (refine wpList_store_row rfl 28 (.tmp 15) (.tmp 70) rfl wr.heap.size C rfl rfl _ _ (heap_alloc_new _ _) I.out IZ.out O1.out ?_; rw [World.setRow_alloc_new]))
    have AB1 := Lib.hid (alloc_below wr (.cells C 28))
    have T1 := Lib.hid (show Qb w (wr.alloc (.cells C 28)) g p A n c from ⟨by rw [HGQ.out, HC.out]; exact heap_alloc_new _ _, (HB.out.trans (Below.mono HGR.out HB.out.size)).trans (AB1.out.mono (Nat.le_trans HB.out.size (Below.size HGR.out))), Nat.le_trans HB.out.size HWG.out, HOK.out⟩)
    have G1 := Lib.hid (show Gr W (wr.alloc (.cells C 28)) from HGR.out.trans (AB1.out.mono (Below.size HGR.out)))
    have BG1 := Lib.hid (show Below g wr (wr.alloc (.cells C 28)) by rw [HGQ.out]; exact AB1.out)
    rw [← HGQ.out]
    clear RR AB1 hzv
    generalize wr.alloc (.cells C 28) = w1 at *
    have c37 := T1.out.cell 3 _ rfl
    have c39 := T1.out.cell 5 _ rfl
    have f37 := T1.out.frozen 3
    have f39 := T1.out.frozen 5
    go_upto_region 18 with fail
    have T2 := Lib.hid (show Qb w ((w1.setCell ⟨g, 37, none⟩ (.bool false)).setCell ⟨g, 39, none⟩ (.int .i64 k)) g { p with whole := false, off := (k : Int) } A n c from
      (show Qb w (w1.setCell ⟨g, 37, none⟩ (.bool false)) g { p with whole := false } A n c from T1.out.set_ 3 (.bool false) rfl ⟨rfl, rfl, rfl, rfl⟩ ⟨T1.out.ok.la, T1.out.ok.lb, T1.out.ok.ya, T1.out.ok.yb, T1.out.ok.proto, T1.out.ok.hops, T1.out.ok.id, T1.out.ok.off⟩).set_ 5 (.int .i64 k) rfl ⟨rfl, rfl, rfl, rfl⟩ ⟨T1.out.ok.la, T1.out.ok.lb, T1.out.ok.ya, T1.out.ok.yb, T1.out.ok.proto, T1.out.ok.hops, T1.out.ok.id, by have := HKN.out; show (-9223372036854775808 : Int) ≤ (k : Int) ∧ (k : Int) ≤ 9223372036854775807; omega⟩)
    have DB : Below g w1 ((w1.setCell ⟨g, 37, none⟩ (.bool false)).setCell ⟨g, 39, none⟩ (.int .i64 k)) := ((Below.refl g w1).setCell (p := ⟨g, 37, none⟩) (Nat.le_refl _) _).setCell (p := ⟨g, 39, none⟩) (Nat.le_refl _) _
    have G2 := Lib.hid (show Gr W ((w1.setCell ⟨g, 37, none⟩ (.bool false)).setCell ⟨g, 39, none⟩ (.int .i64 k)) from Below.trans G1.out (DB.mono HWG.out))
    have BG2 := Lib.hid (Below.trans BG1.out DB)
    clear c37 c39 f37 f39 T1 DB G1 BG1
    generalize (w1.setCell ⟨g, 37, none⟩ (.bool false)).setCell ⟨g, 39, none⟩ (.int .i64 k) = w2 at *
    have c36 := T2.out.cell 2 _ rfl
    have f36 := T2.out.frozen 2
    go_upto_region 20 with fail
    have T3 := Lib.hid (show Qb w (w2.setCell ⟨g, 36, none⟩ (.int .u32 id)) g { p with whole := false, off := (k : Int), id := id } A n c from T2.out.set_ 2 (.int .u32 id) rfl ⟨rfl, rfl, rfl, rfl⟩ ⟨T2.out.ok.la, T2.out.ok.lb, T2.out.ok.ya, T2.out.ok.yb, T2.out.ok.proto, T2.out.ok.hops, HID.out, T2.out.ok.off⟩)
    have G3 := Lib.hid (show Gr W (w2.setCell ⟨g, 36, none⟩ (.int .u32 id)) from Below.setCell G2.out (p := ⟨g, 36, none⟩) HWG.out _)
    have BG3 := Lib.hid (show Below g wr (w2.setCell ⟨g, 36, none⟩ (.int .u32 id)) from BG2.out.setCell (p := ⟨g, 36, none⟩) (Nat.le_refl _) _)
    clear c36 f36 T2 G2 BG2
    generalize w2.setCell ⟨g, 36, none⟩ (.int .u32 id) = w3 at *
    have hld := KLD.out w3 G3.out
    obtain ⟨K2, hK2⟩ : ∃ q, q = k + sz := ⟨_, rfl⟩
    have hadd : (k : Int) + (sz : Int) = (K2 : Int) := by omega
    have wK2 : IntKind.i64.wrap (K2 : Int) = (K2 : Int) := IntWalk.i64_in _ (by have := HKN.out; have := HSZ.out; omega)
    obtain ⟨E2, hE2⟩ : ∃ q, q = min K2 n := ⟨_, rfl⟩
    have hmin : (if (n : Int) < (K2 : Int) then (n : Int) else (K2 : Int)) = (E2 : Int) := by split <;> omega
    have hminN : (if n < K2 then (n : Int) else (K2 : Int)) = (E2 : Int) := by split <;> omega
    have HK2 := Lib.hid hK2
    have HE2 := Lib.hid hE2
    have HKE := Lib.hid (show k < E2 ∧ E2 ≤ n ∧ K2 ≤ 8000 by have := HKN.out; have := HSZ.out; omega)
    have WK2 := Lib.hid wK2
    have HADD := Lib.hid hadd
    clear hK2 hE2
    go_upto_region 21 with fail
    clear hadd wK2 hmin hminN
    obtain ⟨mo, hmo⟩ : ∃ b, decide ((E2 : Int) < (n : Int)) = b := ⟨_, rfl⟩
    have c38 := T3.out.cell 4 _ rfl
    have f38 := T3.out.frozen 4
    have HMO := Lib.hid hmo
    have hmoN : decide (E2 < n) = mo := by rw [← hmo]; exact decide_eq_decide.2 ⟨fun h => by omega, fun h => by omega⟩
    go_upto_region 22 with fail
    have T4 := Lib.hid (show Qb w (w3.setCell ⟨g, 38, none⟩ (.bool mo)) g { p with whole := false, off := (k : Int), id := id, more := mo } A n c from T3.out.set_ 4 (.bool mo) rfl ⟨rfl, rfl, rfl, rfl⟩ ⟨T3.out.ok.la, T3.out.ok.lb, T3.out.ok.ya, T3.out.ok.yb, T3.out.ok.proto, T3.out.ok.hops, T3.out.ok.id, T3.out.ok.off⟩)
    have G4 := Lib.hid (show Gr W (w3.setCell ⟨g, 38, none⟩ (.bool mo)) from Below.setCell G3.out (p := ⟨g, 38, none⟩) HWG.out _)
    have BG4 := Lib.hid (show Below g wr (w3.setCell ⟨g, 38, none⟩ (.bool mo)) from BG3.out.setCell (p := ⟨g, 38, none⟩) (Nat.le_refl _) _)
    clear c38 f38 T3 G3 BG3 hmo hmoN hld
    generalize w3.setCell ⟨g, 38, none⟩ (.bool mo) = w4 at *
    have hld := KLD.out w4 G4.out
    obtain ⟨n9, hn9⟩ : ∃ q, q = E2 - k := ⟨_, rfl⟩
    have hsc : (Instr.slice 26 (.slice A n c) (some (.int .i64 (k : Int))) (some (.int .i64 (E2 : Int))) none).run Try.prog w4 = .ok (.slice (A.map (·.add k)) n9 (c - k)) w4 := by
      have h9 := pkC.cut_two A n c k E2 (by have := HKE.out; omega) (by have := HKE.out; have := HNC.out; omega) w4
      rw [if_neg (by have := HKN.out; have := HNC.out; omega), ← hn9] at h9
      exact h9
    have hzl : ((xs.drop k).take sz).length = n9 := by
      rw [List.length_take, List.length_drop, HL.out]
      have := HK2.out; have := HE2.out; omega
    have NX9 := Lib.hid (show Nums .u8 w4 w4.heap.size (A.map (·.add k)) n9 ((xs.drop k).take sz) by
      have h9 := partNK (XN.out w4 G4.out) (k := k) (d := c) (by have := HKN.out; omega) (by have := HNC.out; omega)
      rw [if_neg (by have := HKN.out; have := HNC.out; omega)] at h9
      have h8 := h9.upto (show n9 ≤ n - k by have := HKE.out; omega)
      have e8 : (xs.drop k).take n9 = (xs.drop k).take sz := by
        have hq := hzl
        rw [List.length_take] at hq
        rcases Nat.le_total sz (xs.drop k).length with q | q
        · rw [show n9 = sz by omega]
        · rw [List.take_of_length_le (i := n9) (by omega), List.take_of_length_le (i := sz) q]
      rw [e8] at h8
      exact h8)
    have HZL := Lib.hid hzl
    have HYZ := Lib.hid (show ∀ x ∈ (xs.drop k).take sz, Byte x from fun x hx => HXY.out x (List.mem_of_mem_drop (List.mem_of_mem_take hx)))
    have HZP := Lib.hid (show ({ p with whole := false, off := (k : Int), id := id, more := mo }, (xs.drop k).take sz) = pieceP (p, xs) id sz k by
      unfold pieceP
      simp only [HS.out]
      rw [show decide (k + sz < xs.length) = mo by rw [← HMO.out, HL.out]; have := HK2.out; have := HE2.out; exact decide_eq_decide.2 ⟨fun h => by omega, fun h => by omega⟩]
      rfl)
    have N9 := Lib.hid (show n9 ≤ 3000 by have := HKE.out; have := HN2.out; omega)
    generalize (xs.drop k).take sz = zs at *
    clear hzl hn9
    go_upto_region 23 with (first
      | (at_builtin
         (refine wpList_app _ rfl (.const (.slice none 0 0)) (.tmp 94) _ rfl 5 i0 _ 1 Try.underlying26 I1.out I2.out I3.out I4.out rfl w4.heap.size _ [] rfl (Own.nil _ _) w4.heap.size _ n9 (c - k) zs rfl NX9.out (by rw [List.length_nil]; have := N9.out; unfold maxLen; omega) (by rw [List.length_nil]; have := N9.out; omega) (Nat.le_refl _) ?_)
         intro v5 w5 O hg
         have B5 := Lib.hid (show Below w4.heap.size w4 w5 from (Below.refl w4.heap.size w4).grown hg (Nat.le_refl _) fun q hq => ((Own.nil _ _ : Own .u8 5 w4 w4.heap.size (.slice none 0 0) []).blk q hq).1)
         rw [List.nil_append] at O
         obtain ⟨A5, c5, ev, g51, g52, -⟩ := O.form
         rw [HZL.out] at ev g51
         subst ev
         have HO5 := Lib.hid O
         have LC5 := Lib.hid (show n9 ≤ c5 ∧ c5 ≤ 9223372036854775807 from ⟨g51, by unfold maxLen at g52; omega⟩)
         have T5 := Lib.hid (T4.out.below B5.out)
         have c40 := T5.out.cell 6 _ rfl
         have f40 := T5.out.frozen 6
         clear O hg g51 g52))
    have SB4 := Lib.hid (show g ≤ w4.heap.size by have := BG4.out.size; have := HGQ.out; omega)
    have T6 := Lib.hid (show Qb w (w5.setCell ⟨g, 40, none⟩ (.slice A5 n9 c5)) g { p with whole := false, off := (k : Int), id := id, more := mo } A5 n9 c5 from T5.out.set_ 6 (.slice A5 n9 c5) rfl ⟨rfl, rfl, rfl, rfl⟩ T5.out.ok)
    have G6 := Lib.hid (show Gr W (w5.setCell ⟨g, 40, none⟩ (.slice A5 n9 c5)) from Below.setCell (Below.trans G4.out (B5.out.mono (Below.size G4.out))) (p := ⟨g, 40, none⟩) HWG.out _)
    have BG6 := Lib.hid (show Below g wr (w5.setCell ⟨g, 40, none⟩ (.slice A5 n9 c5)) from (BG4.out.trans (B5.out.mono SB4.out)).setCell (p := ⟨g, 40, none⟩) (Nat.le_refl _) _)
    have HO6 := Lib.hid (show Own .u8 5 (w5.setCell ⟨g, 40, none⟩ (.slice A5 n9 c5)) w4.heap.size (.slice A5 n9 c5) zs from HO5.out.keep fun q g1 g2 => Below.heap_setCell _ _ _ _ (by show q ≠ g; have := T4.out.row; have := (Array.getElem?_eq_some_iff.1 this).1; omega))
    clear c40 f40 T4 G4 BG4 B5 T5 HO5 NX9 hld
    generalize w5.setCell ⟨g, 40, none⟩ (.slice A5 n9 c5) = w6 at *
    have ICX := Lib.hid (pkt_info T6.out.ok A5 n9 c5)
    have SCX := Lib.hid (show (pktV { p with whole := false, off := (k : Int), id := id, more := mo } A5 n9 c5).size = 41 from (pkC.pkC T6.out.ok A5 n9 c5).size)
    have R6 := Lib.hid T6.out.row
    have OKX := Lib.hid T6.out.ok
    obtain ⟨px, hpx⟩ : ∃ q, q = ({ p with whole := false, off := (k : Int), id := id, more := mo } : Pkt) := ⟨_, rfl⟩
    rw [← hpx] at HZP ICX SCX R6 OKX
    clear hpx T6
    have AB7 := Lib.hid (alloc_below w6 (.cells (pktV px A5 n9 c5) 28))
    have RK7 := Lib.hid (rowK1 (w := w6.alloc (.cells (pktV px A5 n9 c5) 28)) (g := w6.heap.size) (e := ⟨px, A5, n9, c5, zs⟩) (heap_alloc_new _ _))
    have SB6 := Lib.hid (show g ≤ w6.heap.size by have := BG6.out.size; have := HGQ.out; omega)
    have BG7 := Lib.hid (BG6.out.trans (AB7.out.mono SB6.out))
    have HOW7 := Lib.hid (HOW.out.keep (w' := w6.alloc (.cells (pktV px A5 n9 c5) 28)) fun q g1 g2 => BG7.out.block q (by have := HGQ.out; omega))
    have HLE7 := Lib.hid (fun e he => (HLE.out e he).1.keep (w' := w6.alloc (.cells (pktV px A5 n9 c5) 28)) fun q g1 g2 => BG7.out.block q (by have := HGQ.out; omega))
    have HOX7 := Lib.hid ((HO6.out.below AB7.out).less (show W.heap.size ≤ w4.heap.size by have := SB4.out; have := HWG.out; omega))
    have G7 := Lib.hid (show Gr W (w6.alloc (.cells (pktV px A5 n9 c5) 28)) from Below.trans G6.out (AB7.out.mono (Below.size G6.out)))
    have HL9 := Lib.hid (show es.length + 1 = (es ++ [(⟨px, A5, n9, c5, zs⟩ : Pe)]).length by rw [List.length_append]; rfl)
    generalize hCX : pktV px A5 n9 c5 = CX at *
    clear hCX
    go_upto_region 15 with (first
      | (refine wpList_load_row rfl 28 (.tmp 15) rfl g rfl _ _ _ _ R6.out Try.underlying28 rfl ICX.out ?_)
      | (refine wpList_sliceK rfl (.tmp 98) rfl CX rfl SCX.out ?_)
      | (at_builtin
         (refine wpList_appK _ rfl (.tmp 97) (.tmp 99) rfl W.heap.size _ es rfl HOW7.out (fun e he => (HLE.out e he).2.p) _ _ 1 1 [⟨px, A5, n9, c5, zs⟩] rfl RK7.out (fun e he => by obtain rfl := List.mem_singleton.1 he; exact OKX.out) (by have := HKN.out; omega) (by decide) (Below.size G7.out) _ HL9.out ?_)
         intro A8 c8 w8 gl O8 B8 GR8
         have HO8 := Lib.hid O8
         have G8 := Lib.hid (show Gr W w8 from Below.trans G7.out (B8.mono (Nat.le_refl _)))
         have HLE8 := Lib.hid (fun e (he : e ∈ es ++ [⟨px, A5, n9, c5, zs⟩]) => (show Own .u8 5 w8 W.heap.size (.slice e.A e.n e.c) e.x ∧ e.Ok by
           rcases List.mem_append.1 he with h | h
           · exact ⟨own_grownK (HLE7.out e h) HOW7.out GR8, (HLE.out e h).2⟩
           · obtain rfl := List.mem_singleton.1 h
             exact ⟨own_grownK HOX7.out HOW7.out GR8, ⟨OKX.out, HYZ.out, LC5.out.1, LC5.out.2⟩⟩))
         clear gl O8 B8 GR8))
    have hadd := HADD.out
    have wK2 := WK2.out
    go_wp2_with fail
    go_roundw
    case rel =>
      refine ⟨K2, f', es ++ [⟨px, A5, n9, c5, zs⟩], A8, c8, by trivial, ?_, ?_, by rw [HL9.out], HO8.out, HLE8.out, ?_, ?_, G8.out⟩
      · have := HKN.out; have := HSZ.out; have := HK2.out; have := HN2.out; omega
      · rw [← HL9.out]; have := HKN.out; have := HSZ.out; have := HK2.out; omega
      · have := HKN.out; have := HSZ.out; have := HK2.out; omega
      · rw [List.map_append, List.append_assoc, HK2.out]
        have h9 := HTE2.out
        rw [← HZP.out] at h9
        exact h9
    case measure => have := HKN.out; have := HSZ.out; have := HK2.out; simp [intOf]; omega
theorem rcut_any (p : Pkt) (A : Option Addr) (n c : Nat) (xs : List Int) (mtu id : Int) (w : World) (hp : p.Ok) (hx : Nums .u8 w w.heap.size A n xs) (hy : ∀ x ∈ xs, Byte x) (hnc : n ≤ c) (hcm : c ≤ 9223372036854775807) (hm : -9223372036854775808 ≤ mtu ∧ mtu ≤ 9223372036854775807) (hid : 0 ≤ id ∧ id ≤ 4294967295) (hn : n ≤ 2000) :
    Calls Try.prog 9 #[.agg (pktV p A n c), .int .i64 mtu, .int .u32 id] w (CutR w (cutL (p, xs) mtu id) (cutE (p, xs) mtu)) := by
  cases ha : argP (p, xs) mtu
  · cases hs : p.s
    · exact rcut_four_ok p A n c xs mtu id w hp hx hy hnc hcm hm hid hn hs ha
    · exact rcut_six_ok p A n c xs mtu id w hp hx hy hnc hcm hm hid hn hs ha
  · have e1 : cutL (p, xs) mtu id = [] := by unfold cutL; rw [if_pos ha]
    have e2 : cutE (p, xs) mtu = 1 := by unfold cutE; rw [if_pos ha]
    rw [e1, e2]
    cases hs : p.s
    · exact rcut_four_arg p A n c xs mtu id w hp hx hy hnc hcm hm hid hn hs ha
    · exact rcut_six_arg p A n c xs mtu id w hp hx hy hnc hcm hm hid hn hs ha
end Go.Proofs.Ytcnnpfjommiafaa.fgC

/-
  Whether a packet may be: the program's.
-/
namespace Go.Proofs.Ytcnnpfjommiafaa.pkC
open Go.ChangeShapes Go.WideShapes Go.ChangeAt Go.RowKit
open Go.Proofs.Ytcnnpfjommiafaa.memC Go.Proofs.Ytcnnpfjommiafaa.genC Go.Proofs.Ytcnnpfjommiafaa.butC Go.Proofs.Ytcnnpfjommiafaa.freeC Go.Proofs.Ytcnnpfjommiafaa.adC
set_option linter.unusedVariables false
def fourB' (s : Bool) (b : List Int) : Bool := !s && mayL s b
set_option maxRecDepth 100000 in
set_option maxHeartbeats 1000000 in
theorem cisfour_any (s : Bool) (b : List Int) (w : World) (hl : b.length = 16) : Calls Try.prog 53 #[.agg (adrV s b)] w (Ret w (.bool (fourB' s b))) := by
  have HB := Lib.hid (alloc_below w (.cells (adrV s b) 24))
  have k1 : (w.alloc (.cells (adrV s b) 24)).cell? ⟨w.heap.size, 0, none⟩ = some (.bool s) := by rw [cell_new]; exact adrV_six _ _
  have R := Lib.hid (heap_alloc_new w (.cells (adrV s b) 24))
  have UI := Lib.hid (show (Try.prog.info? 24).map (·.size) = some (adrV s b).size by rw [addr_info]; simp [adrV, hl])
  have MM := Lib.hid (fun w' => cmay_any s b w' hl)
  unfold fourB'
  generalize mayL s b = m at *
  generalize adrV s b = C at *
  obtain ⟨W, hW⟩ : ∃ W, W = w.alloc (.cells C 24) := ⟨_, rfl⟩
  rw [← hW] at HB R k1
  clear hl
  cases s
  · go_enter Try.func53, Try.ntmps53
    go_upto_region 1 with fail
    rw [← hW]
    clear hW
    go_wp2_with (first
      | (refine wpList_load_rowG (by kernel_rfl) 24 (.tmp 1) rfl w.heap.size rfl _ C _ _ R.out Try.underlying24 rfl UI.out ?_)
      | (go_at_call 64; (with_reducible refine (MM.out _).mono ?_); rintro e w2 ⟨rfl, BB⟩))
    go_ret
    exact ⟨rfl, HB.out.trans (BB.mono HB.out.size)⟩
  · go_enter Try.func53, Try.ntmps53
    go_upto_region 1 with fail
    rw [← hW]
    clear hW
    go_wp2_with fail
    go_ret
    exact ⟨rfl, HB.out⟩
theorem mayB_four (p : Pkt) (n : Nat) : mayB p n = (fourB' p.s p.a && (fourB' p.t p.b && (decide (p.id ≤ 65535) && (decide (0 ≤ p.off) && (decide (p.off % 8 = 0) && (decide (p.off ≤ 65515 - (n : Int)) && ((!p.more || decide (n % 8 = 0)) && (!p.whole || (!p.more && decide (p.off = 0)))))))))) := by
  unfold mayB fourB'
  by_cases h : p.off ≤ 65515 - (n : Int)
  · by_cases h0 : 0 ≤ p.off
    · have h1 : (n : Int) ≤ 65515 := by omega
      simp only [h, h0, h1, decide_true, Bool.and_true, Bool.true_and]
      cases p.s <;> cases p.t <;> simp [Bool.and_assoc]
    · simp [h0]
  · simp [h]
set_option maxRecDepth 100000 in
set_option maxHeartbeats 4000000 in
theorem cmay_pkt (p : Pkt) (A : Option Addr) (n c : Nat) (w : World) (hp : p.Ok) (hn : n ≤ 9223372036854775807) :
    Calls Try.prog 36 #[.agg (pktV p A n c)] w (Ret w (.bool (mayB p n))) := by
  obtain ⟨W, hW⟩ : ∃ W, W = w.alloc (.cells (pktV p A n c) 28) := ⟨_, rfl⟩
  have R0 := Lib.hid (show W.heap[w.heap.size]? = some (.cells (pktV p A n c) 28 (0, 0)) by rw [hW]; exact heap_alloc_new w _)
  have HB := Lib.hid (show Below w.heap.size w W by rw [hW]; exact alloc_below _ _)
  have c0 := pkC hp A n c
  have IA := Lib.hid (adrC_info (s := p.s) hp.la)
  have IC := Lib.hid (adrC_info (s := p.t) hp.lb)
  have KR := Lib.hid (fun (w' : World) (h : Below W.heap.size W w') => (show w'.heap[w.heap.size]? = some (.cells (pktV p A n c) 28 (0, 0)) by rw [h.block _ (lt_of_row R0.out)]; exact R0.out))
  have SA := Lib.hid (fun w' h => PkC.part (KR.out w' h) c0.src)
  have SC := Lib.hid (fun w' h => PkC.part (KR.out w' h) c0.dst)
  have M0 := Lib.hid (fun w' => cisfour_any p.s p.a w' hp.la)
  have M1 := Lib.hid (fun w' => cisfour_any p.t p.b w' hp.lb)
  rw [← adrC_arr] at M0 M1
  have k40 := PkC.cell R0.out c0.load
  have Kid := Lib.hid (fun w' h => PkC.cell (KR.out w' h) c0.id)
  have Kwhole := Lib.hid (fun w' h => PkC.cell (KR.out w' h) c0.whole)
  have Kmore := Lib.hid (fun w' h => PkC.cell (KR.out w' h) c0.more)
  have Koff := Lib.hid (fun w' h => PkC.cell (KR.out w' h) c0.off)
  obtain ⟨V, hV⟩ : ∃ V, V = mayB p n := ⟨_, rfl⟩
  rw [← hV]
  rw [mayB_four] at hV
  have hi := hp.id
  have ho := hp.off
  generalize fourB' p.s p.a = m1 at *
  generalize fourB' p.t p.b = m2 at *
  generalize adrC p.s p.a = LA at *
  generalize adrC p.t p.b = LC at *
  generalize pktV p A n c = CP at *
  generalize p.id = id1 at *
  generalize p.whole = whole1 at *
  generalize p.more = more1 at *
  generalize p.off = off1 at *
  have HV := Lib.hid hV
  obtain ⟨hi0, hi1⟩ := hi
  obtain ⟨ho0, ho1⟩ := ho
  clear hp c0 hV KR
  go_enter Try.func36, Try.ntmps36
  go_upto_region 1 with fail
  rw [← hW]
  clear hW
  have HW := Lib.hid (Below.refl W.heap.size W)
  cases m1
  · have hv := Lib.hid (show V = false by rw [HV.out]; simp [*])
    go_wp2_with (first
      | go_skip
      | (with_reducible refine atC.at_load 24 8 ?_; refine wpList_load_partG (by kernel_rfl) 24 (.tmp 8) rfl w.heap.size 0 (by kernel_rfl) LA _ (SA.out _ HW.out) Try.underlying24 rfl IA.out ?_)
      | (with_reducible refine atC.at_load 24 13 ?_; refine wpList_load_partG (by kernel_rfl) 24 (.tmp 13) rfl w.heap.size 17 (by kernel_rfl) LC _ (SC.out _ HW2.out) Try.underlying24 rfl IC.out ?_)
      | (go_at_call 53; (with_reducible refine (M0.out _).mono ?_); rintro e w2 ⟨rfl, BB⟩
         have HW2 := Lib.hid BB
         clear BB)
      | (go_at_call 53; (with_reducible refine (M1.out _).mono ?_); rintro e w3 ⟨rfl, BB⟩
         have HW3 := Lib.hid (HW2.out.trans (BB.mono HW2.out.size))
         clear BB
         have k36 := Kid.out _ HW3.out
         have k37 := Kwhole.out _ HW3.out
         have k38 := Kmore.out _ HW3.out
         have k39 := Koff.out _ HW3.out))
    go_ret
    exact ⟨ret_bool hv.out.symm, (HB.out.trans (HW2.out.mono HB.out.size))⟩
  · cases m2
    · have hv := Lib.hid (show V = false by rw [HV.out]; simp [*])
      go_wp2_with (first
        | go_skip
        | (with_reducible refine atC.at_load 24 8 ?_; refine wpList_load_partG (by kernel_rfl) 24 (.tmp 8) rfl w.heap.size 0 (by kernel_rfl) LA _ (SA.out _ HW.out) Try.underlying24 rfl IA.out ?_)
        | (with_reducible refine atC.at_load 24 13 ?_; refine wpList_load_partG (by kernel_rfl) 24 (.tmp 13) rfl w.heap.size 17 (by kernel_rfl) LC _ (SC.out _ HW2.out) Try.underlying24 rfl IC.out ?_)
        | (go_at_call 53; (with_reducible refine (M0.out _).mono ?_); rintro e w2 ⟨rfl, BB⟩
           have HW2 := Lib.hid BB
           clear BB)
        | (go_at_call 53; (with_reducible refine (M1.out _).mono ?_); rintro e w3 ⟨rfl, BB⟩
           have HW3 := Lib.hid (HW2.out.trans (BB.mono HW2.out.size))
           clear BB
           have k36 := Kid.out _ HW3.out
           have k37 := Kwhole.out _ HW3.out
           have k38 := Kmore.out _ HW3.out
           have k39 := Koff.out _ HW3.out))
      go_ret
      exact ⟨ret_bool hv.out.symm, (HB.out.trans (HW3.out.mono HB.out.size))⟩
    · by_cases h1 : 65535 < id1
      · have g1 : ¬ id1 ≤ 65535 := by omega
        have hv := Lib.hid (show V = false by rw [HV.out]; simp [*])
        go_wp2_with (first
          | go_skip
          | (with_reducible refine atC.at_load 24 8 ?_; refine wpList_load_partG (by kernel_rfl) 24 (.tmp 8) rfl w.heap.size 0 (by kernel_rfl) LA _ (SA.out _ HW.out) Try.underlying24 rfl IA.out ?_)
          | (with_reducible refine atC.at_load 24 13 ?_; refine wpList_load_partG (by kernel_rfl) 24 (.tmp 13) rfl w.heap.size 17 (by kernel_rfl) LC _ (SC.out _ HW2.out) Try.underlying24 rfl IC.out ?_)
          | (go_at_call 53; (with_reducible refine (M0.out _).mono ?_); rintro e w2 ⟨rfl, BB⟩
             have HW2 := Lib.hid BB
             clear BB)
          | (go_at_call 53; (with_reducible refine (M1.out _).mono ?_); rintro e w3 ⟨rfl, BB⟩
             have HW3 := Lib.hid (HW2.out.trans (BB.mono HW2.out.size))
             clear BB
             have k36 := Kid.out _ HW3.out
             have k37 := Kwhole.out _ HW3.out
             have k38 := Kmore.out _ HW3.out
             have k39 := Koff.out _ HW3.out))
        go_ret
        exact ⟨ret_bool hv.out.symm, (HB.out.trans (HW3.out.mono HB.out.size))⟩
      · have d1 : decide (65535 < id1) = false := decide_eq_false h1
        have g1 : id1 ≤ 65535 := by omega
        by_cases h2 : off1 < 0
        · have g2 : ¬ 0 ≤ off1 := by omega
          have hv := Lib.hid (show V = false by rw [HV.out]; simp [*])
          go_wp2_with (first
            | go_skip
            | (with_reducible refine atC.at_load 24 8 ?_; refine wpList_load_partG (by kernel_rfl) 24 (.tmp 8) rfl w.heap.size 0 (by kernel_rfl) LA _ (SA.out _ HW.out) Try.underlying24 rfl IA.out ?_)
            | (with_reducible refine atC.at_load 24 13 ?_; refine wpList_load_partG (by kernel_rfl) 24 (.tmp 13) rfl w.heap.size 17 (by kernel_rfl) LC _ (SC.out _ HW2.out) Try.underlying24 rfl IC.out ?_)
            | (go_at_call 53; (with_reducible refine (M0.out _).mono ?_); rintro e w2 ⟨rfl, BB⟩
               have HW2 := Lib.hid BB
               clear BB)
            | (go_at_call 53; (with_reducible refine (M1.out _).mono ?_); rintro e w3 ⟨rfl, BB⟩
               have HW3 := Lib.hid (HW2.out.trans (BB.mono HW2.out.size))
               clear BB
               have k36 := Kid.out _ HW3.out
               have k37 := Kwhole.out _ HW3.out
               have k38 := Kmore.out _ HW3.out
               have k39 := Koff.out _ HW3.out))
          go_ret
          exact ⟨ret_bool hv.out.symm, (HB.out.trans (HW3.out.mono HB.out.size))⟩
        · have d2 : decide (off1 < 0) = false := decide_eq_false h2
          have g2 : 0 ≤ off1 := by omega
          by_cases h3 : ¬ off1 % 8 = 0
          · have d3 : (off1.tmod 8 == 0) = false := beq_eq_false_iff_ne.2 (by rw [Int.tmod_eq_emod_of_nonneg g2]; exact h3)
            have hv := Lib.hid (show V = false by rw [HV.out]; simp [*])
            go_wp2_with (first
              | go_skip
              | (with_reducible refine atC.at_load 24 8 ?_; refine wpList_load_partG (by kernel_rfl) 24 (.tmp 8) rfl w.heap.size 0 (by kernel_rfl) LA _ (SA.out _ HW.out) Try.underlying24 rfl IA.out ?_)
              | (with_reducible refine atC.at_load 24 13 ?_; refine wpList_load_partG (by kernel_rfl) 24 (.tmp 13) rfl w.heap.size 17 (by kernel_rfl) LC _ (SC.out _ HW2.out) Try.underlying24 rfl IC.out ?_)
              | (go_at_call 53; (with_reducible refine (M0.out _).mono ?_); rintro e w2 ⟨rfl, BB⟩
                 have HW2 := Lib.hid BB
                 clear BB)
              | (go_at_call 53; (with_reducible refine (M1.out _).mono ?_); rintro e w3 ⟨rfl, BB⟩
                 have HW3 := Lib.hid (HW2.out.trans (BB.mono HW2.out.size))
                 clear BB
                 have k36 := Kid.out _ HW3.out
                 have k37 := Kwhole.out _ HW3.out
                 have k38 := Kmore.out _ HW3.out
                 have k39 := Koff.out _ HW3.out))
            go_ret
            exact ⟨ret_bool hv.out.symm, (HB.out.trans (HW3.out.mono HB.out.size))⟩
          · have h3 : off1 % 8 = 0 := by omega
            have d3 : off1.tmod 8 = 0 := by rw [Int.tmod_eq_emod_of_nonneg g2]; exact h3
            by_cases h5 : 65515 - (n : Int) < off1
            · have g5 : ¬ off1 ≤ 65515 - (n : Int) := by omega
              have hv := Lib.hid (show V = false by rw [HV.out]; simp [*])
              go_wp2_with (first
                | go_skip
                | (with_reducible refine atC.at_load 24 8 ?_; refine wpList_load_partG (by kernel_rfl) 24 (.tmp 8) rfl w.heap.size 0 (by kernel_rfl) LA _ (SA.out _ HW.out) Try.underlying24 rfl IA.out ?_)
                | (with_reducible refine atC.at_load 24 13 ?_; refine wpList_load_partG (by kernel_rfl) 24 (.tmp 13) rfl w.heap.size 17 (by kernel_rfl) LC _ (SC.out _ HW2.out) Try.underlying24 rfl IC.out ?_)
                | (go_at_call 53; (with_reducible refine (M0.out _).mono ?_); rintro e w2 ⟨rfl, BB⟩
                   have HW2 := Lib.hid BB
                   clear BB)
                | (go_at_call 53; (with_reducible refine (M1.out _).mono ?_); rintro e w3 ⟨rfl, BB⟩
                   have HW3 := Lib.hid (HW2.out.trans (BB.mono HW2.out.size))
                   clear BB
                   have k36 := Kid.out _ HW3.out
                   have k37 := Kwhole.out _ HW3.out
                   have k38 := Kmore.out _ HW3.out
                   have k39 := Koff.out _ HW3.out))
              go_ret
              exact ⟨ret_bool hv.out.symm, (HB.out.trans (HW3.out.mono HB.out.size))⟩
            · have d5 : decide (65515 - (n : Int) < off1) = false := decide_eq_false h5
              have g5 : off1 ≤ 65515 - (n : Int) := by omega
              have g6 : (n : Int) ≤ 65515 := by omega
              cases more1
              · cases whole1
                · have hv := Lib.hid (show V = true by rw [HV.out]; simp [*])
                  go_wp2_with (first
                    | go_skip
                    | (with_reducible refine atC.at_load 24 8 ?_; refine wpList_load_partG (by kernel_rfl) 24 (.tmp 8) rfl w.heap.size 0 (by kernel_rfl) LA _ (SA.out _ HW.out) Try.underlying24 rfl IA.out ?_)
                    | (with_reducible refine atC.at_load 24 13 ?_; refine wpList_load_partG (by kernel_rfl) 24 (.tmp 13) rfl w.heap.size 17 (by kernel_rfl) LC _ (SC.out _ HW2.out) Try.underlying24 rfl IC.out ?_)
                    | (go_at_call 53; (with_reducible refine (M0.out _).mono ?_); rintro e w2 ⟨rfl, BB⟩
                       have HW2 := Lib.hid BB
                       clear BB)
                    | (go_at_call 53; (with_reducible refine (M1.out _).mono ?_); rintro e w3 ⟨rfl, BB⟩
                       have HW3 := Lib.hid (HW2.out.trans (BB.mono HW2.out.size))
                       clear BB
                       have k36 := Kid.out _ HW3.out
                       have k37 := Kwhole.out _ HW3.out
                       have k38 := Kmore.out _ HW3.out
                       have k39 := Koff.out _ HW3.out))
                  go_ret
                  exact ⟨ret_bool hv.out.symm, (HB.out.trans (HW3.out.mono HB.out.size))⟩
                · by_cases h0 : off1 = 0
                  · have hv := Lib.hid (show V = true by rw [HV.out]; simp [*])
                    go_wp2_with (first
                      | go_skip
                      | (with_reducible refine atC.at_load 24 8 ?_; refine wpList_load_partG (by kernel_rfl) 24 (.tmp 8) rfl w.heap.size 0 (by kernel_rfl) LA _ (SA.out _ HW.out) Try.underlying24 rfl IA.out ?_)
                      | (with_reducible refine atC.at_load 24 13 ?_; refine wpList_load_partG (by kernel_rfl) 24 (.tmp 13) rfl w.heap.size 17 (by kernel_rfl) LC _ (SC.out _ HW2.out) Try.underlying24 rfl IC.out ?_)
                      | (go_at_call 53; (with_reducible refine (M0.out _).mono ?_); rintro e w2 ⟨rfl, BB⟩
                         have HW2 := Lib.hid BB
                         clear BB)
                      | (go_at_call 53; (with_reducible refine (M1.out _).mono ?_); rintro e w3 ⟨rfl, BB⟩
                         have HW3 := Lib.hid (HW2.out.trans (BB.mono HW2.out.size))
                         clear BB
                         have k36 := Kid.out _ HW3.out
                         have k37 := Kwhole.out _ HW3.out
                         have k38 := Kmore.out _ HW3.out
                         have k39 := Koff.out _ HW3.out))
                    go_ret
                    exact ⟨ret_bool hv.out.symm, (HB.out.trans (HW3.out.mono HB.out.size))⟩
                  · have q0 : (off1 == 0) = false := beq_eq_false_iff_ne.2 h0
                    have hv := Lib.hid (show V = false by rw [HV.out]; simp [*])
                    go_wp2_with (first
                      | go_skip
                      | (with_reducible refine atC.at_load 24 8 ?_; refine wpList_load_partG (by kernel_rfl) 24 (.tmp 8) rfl w.heap.size 0 (by kernel_rfl) LA _ (SA.out _ HW.out) Try.underlying24 rfl IA.out ?_)
                      | (with_reducible refine atC.at_load 24 13 ?_; refine wpList_load_partG (by kernel_rfl) 24 (.tmp 13) rfl w.heap.size 17 (by kernel_rfl) LC _ (SC.out _ HW2.out) Try.underlying24 rfl IC.out ?_)
                      | (go_at_call 53; (with_reducible refine (M0.out _).mono ?_); rintro e w2 ⟨rfl, BB⟩
                         have HW2 := Lib.hid BB
                         clear BB)
                      | (go_at_call 53; (with_reducible refine (M1.out _).mono ?_); rintro e w3 ⟨rfl, BB⟩
                         have HW3 := Lib.hid (HW2.out.trans (BB.mono HW2.out.size))
                         clear BB
                         have k36 := Kid.out _ HW3.out
                         have k37 := Kwhole.out _ HW3.out
                         have k38 := Kmore.out _ HW3.out
                         have k39 := Koff.out _ HW3.out))
                    go_ret
                    exact ⟨ret_bool hv.out.symm, (HB.out.trans (HW3.out.mono HB.out.size))⟩
              · by_cases h8 : n % 8 = 0
                · have t8 : (n : Int).tmod 8 = 0 := by rw [Int.tmod_eq_emod_of_nonneg (by omega)]; omega
                  cases whole1
                  · have hv := Lib.hid (show V = true by rw [HV.out]; simp [*])
                    go_wp2_with (first
                      | go_skip
                      | (with_reducible refine atC.at_load 24 8 ?_; refine wpList_load_partG (by kernel_rfl) 24 (.tmp 8) rfl w.heap.size 0 (by kernel_rfl) LA _ (SA.out _ HW.out) Try.underlying24 rfl IA.out ?_)
                      | (with_reducible refine atC.at_load 24 13 ?_; refine wpList_load_partG (by kernel_rfl) 24 (.tmp 13) rfl w.heap.size 17 (by kernel_rfl) LC _ (SC.out _ HW2.out) Try.underlying24 rfl IC.out ?_)
                      | (go_at_call 53; (with_reducible refine (M0.out _).mono ?_); rintro e w2 ⟨rfl, BB⟩
                         have HW2 := Lib.hid BB
                         clear BB)
                      | (go_at_call 53; (with_reducible refine (M1.out _).mono ?_); rintro e w3 ⟨rfl, BB⟩
                         have HW3 := Lib.hid (HW2.out.trans (BB.mono HW2.out.size))
                         clear BB
                         have k36 := Kid.out _ HW3.out
                         have k37 := Kwhole.out _ HW3.out
                         have k38 := Kmore.out _ HW3.out
                         have k39 := Koff.out _ HW3.out))
                    go_ret
                    exact ⟨ret_bool hv.out.symm, (HB.out.trans (HW3.out.mono HB.out.size))⟩
                  · have hv := Lib.hid (show V = false by rw [HV.out]; simp [*])
                    go_wp2_with (first
                      | go_skip
                      | (with_reducible refine atC.at_load 24 8 ?_; refine wpList_load_partG (by kernel_rfl) 24 (.tmp 8) rfl w.heap.size 0 (by kernel_rfl) LA _ (SA.out _ HW.out) Try.underlying24 rfl IA.out ?_)
                      | (with_reducible refine atC.at_load 24 13 ?_; refine wpList_load_partG (by kernel_rfl) 24 (.tmp 13) rfl w.heap.size 17 (by kernel_rfl) LC _ (SC.out _ HW2.out) Try.underlying24 rfl IC.out ?_)
                      | (go_at_call 53; (with_reducible refine (M0.out _).mono ?_); rintro e w2 ⟨rfl, BB⟩
                         have HW2 := Lib.hid BB
                         clear BB)
                      | (go_at_call 53; (with_reducible refine (M1.out _).mono ?_); rintro e w3 ⟨rfl, BB⟩
                         have HW3 := Lib.hid (HW2.out.trans (BB.mono HW2.out.size))
                         clear BB
                         have k36 := Kid.out _ HW3.out
                         have k37 := Kwhole.out _ HW3.out
                         have k38 := Kmore.out _ HW3.out
                         have k39 := Koff.out _ HW3.out))
                    go_ret
                    exact ⟨ret_bool hv.out.symm, (HB.out.trans (HW3.out.mono HB.out.size))⟩
                · have t8 : ((n : Int).tmod 8 == 0) = false := beq_eq_false_iff_ne.2 (by rw [Int.tmod_eq_emod_of_nonneg (by omega)]; omega)
                  have hv := Lib.hid (show V = false by rw [HV.out]; simp [*])
                  go_wp2_with (first
                    | go_skip
                    | (with_reducible refine atC.at_load 24 8 ?_; refine wpList_load_partG (by kernel_rfl) 24 (.tmp 8) rfl w.heap.size 0 (by kernel_rfl) LA _ (SA.out _ HW.out) Try.underlying24 rfl IA.out ?_)
                    | (with_reducible refine atC.at_load 24 13 ?_; refine wpList_load_partG (by kernel_rfl) 24 (.tmp 13) rfl w.heap.size 17 (by kernel_rfl) LC _ (SC.out _ HW2.out) Try.underlying24 rfl IC.out ?_)
                    | (go_at_call 53; (with_reducible refine (M0.out _).mono ?_); rintro e w2 ⟨rfl, BB⟩
                       have HW2 := Lib.hid BB
                       clear BB)
                    | (go_at_call 53; (with_reducible refine (M1.out _).mono ?_); rintro e w3 ⟨rfl, BB⟩
                       have HW3 := Lib.hid (HW2.out.trans (BB.mono HW2.out.size))
                       clear BB
                       have k36 := Kid.out _ HW3.out
                       have k37 := Kwhole.out _ HW3.out
                       have k38 := Kmore.out _ HW3.out
                       have k39 := Koff.out _ HW3.out))
                  go_ret
                  exact ⟨ret_bool hv.out.symm, (HB.out.trans (HW3.out.mono HB.out.size))⟩
end Go.Proofs.Ytcnnpfjommiafaa.pkC
