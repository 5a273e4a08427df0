/-
  2 texts of a proof, joined.
-/
import Derived.Test.YtcnnpfjommiafaaMg25
import Derived.Test.YtcnnpfjommiafaaMg33

/-
  Add: its walks, over what is told of the functions that it calls.
-/
namespace Go.Proofs.Ytcnnpfjommiafaa.fgC
open Go.ChangeShapes Go.WideShapes Go.ChangeAt Go.RowKit
open Go.Proofs.Ytcnnpfjommiafaa.memC Go.Proofs.Ytcnnpfjommiafaa.genC Go.Proofs.Ytcnnpfjommiafaa.butC Go.Proofs.Ytcnnpfjommiafaa.freeC Go.Proofs.Ytcnnpfjommiafaa.adC
open Go.Proofs.Ytcnnpfjommiafaa.pkC (Pkt pktL pktV pktT adrC)
open Go.Proofs.Ytcnnpfjommiafaa.partsC (Part nsum catL)
set_option linter.unusedVariables false
theorem zpkB : Try.prog.built 28 [] = some (pktV zPkt none 0 0) := by kernel_rfl
theorem adr_infoB {s : Bool} {b : List Int} (h : b.length = 16) : (Try.prog.info? 24).map (·.size) = some (adrC s b).length := by rw [pkC.adrC_len h]; kernel_rfl
def Zf (S : Nat → Prop) (w1 : World) (k : Nat) : Prop := S k ∨ w1.heap.size ≤ k
theorem fs_setRow {S : Nat → Prop} {w w' : World} (h : Fs S w w') {g : Nat} (hg : w.heap.size ≤ g) (C : Array Value) : Fs S w (w'.setRow g C) :=
  ⟨h.os, h.tape, h.output, by rw [size_setRow]; exact h.size, fun k hk hn => (setRow_other _ _ _ _ (by omega)).trans (h.block k hk hn)⟩
/-- an own row of a table stands while another's row is set -/
theorem TC.setRow {w : World} {S : Nat → Prop} {t m : Nat} {room now : Int} {ov : Value} {ps : List Pp} (h : TC w S t room now m ov ps) {g : Nat} (hg : ¬ S g) (C : Array Value) : TC (w.setRow g C) S t room now m ov ps :=
  h.keep (fun k hk => setRow_other _ _ _ _ (fun e => hg (e ▸ hk))) (by rw [size_setRow]; exact Nat.le_refl _)
set_option maxRecDepth 100000 in
set_option maxHeartbeats 8000000 in
theorem add_err1 (w : World) (S : Nat → Prop) (t : Nat) (room now0 now : Int) (m : Nat) (ov : Value) (ps : List Pp) (p : Pkt) (A : Option Addr) (n c : Nat) (xs : List Int) (h : TC w S t room now0 m ov ps) (hn0 : -9223372036854775808 ≤ now0 ∧ now0 ≤ 9223372036854775807) (hnw : -9223372036854775808 ≤ now ∧ now ≤ 9223372036854775807) (hp : p.Ok) (hx : Nums .u8 w w.heap.size A n xs) (hsx : 0 < n → ∀ k, S k → ∀ i, A ≠ some ⟨k, i, none⟩) (hn : n ≤ 70000) (hmy : mayP (p, xs) = false) :
    Calls Try.prog 12 #[.pointer (some ⟨t, 0, none⟩), .int .i64 now, .agg (pktV p A n c)] w (fun e w' => e = .returned (.tuple #[.agg (pktV zPkt none 0 0), .bool false, .int .i64 3]) ∧ TC w' S t room (laterT now0 now) m ov ps ∧ Fs S w w') := by
  obtain ⟨g5, hg5⟩ : ∃ g, g = w.heap.size := ⟨_, rfl⟩
  obtain ⟨W, hW⟩ : ∃ W, W = (w.alloc (.cells (pktV p A n c) 28)).alloc (.cells (pktV zPkt none 0 0) 28) := ⟨_, rfl⟩
  have HB := Lib.hid (show Below w.heap.size w W by rw [hW]; exact (alloc_below _ _).trans ((alloc_below _ _).mono (alloc_below _ _).size))
  have R5 := Lib.hid (show W.heap[g5]? = some (.cells (pktV p A n c) 28 (0, 0)) by rw [hW, hg5]; exact (two_rows w _ _ _ _).1)
  have R6 := Lib.hid (show W.heap[g5 + 1]? = some (.cells (pktV zPkt none 0 0) 28 (0, 0)) by rw [hW, hg5]; exact (two_rows w _ _ _ _).2)
  have HG5 := Lib.hid hg5
  have TW := Lib.hid (h.below HB.out)
  have NS := Lib.hid (show ∀ k, S k → k < g5 from fun k hk => by rw [hg5]; exact h.lt k hk)
  have MD := Lib.hid (made_any W S t room now0 m ov ps TW.out)
  have TL := Lib.hid (tell_any W S t room now0 now m ov ps TW.out hn0 hnw)
  obtain ⟨now1, hnow1⟩ : ∃ x, x = laterT now0 now := ⟨_, rfl⟩
  rw [← hnow1] at TL
  try rw [← hnow1]
  try rw [← hnow1] at HBg
  have I := Lib.hid (pkt_info hp A n c)
  have OC := Lib.hid (pkC.pkC hp A n c)
  have HP := Lib.hid hp
  have HX := Lib.hid hx
  have HL := Lib.hid hx.len
  have HN7 := Lib.hid hn
  have HSX := Lib.hid hsx
  have KZ : (zeroValue 28).run Try.prog (w.alloc (.cells (pktV p A n c) 28)) = .ok (.agg (pktV zPkt none 0 0)) (w.alloc (.cells (pktV p A n c) 28)) := zeroPktK _
  have MY := Lib.hid (fun w' => cmay_fg p A n c xs w' hp hx.len (by omega))
  have WH := Lib.hid (fun w' => cwhole_fg p A n c xs w' hp)
  have XI := Lib.hid (pkt_info zPkt_okM none 0 0)
  have XO := Lib.hid (pkt_one zPkt none 0 0)
  clear h hn0 hnw hp hx hsx hn hnow1
  generalize mayP (p, xs) = my at *
  subst hmy
  generalize wholeP (p, xs) = wh at *
  go_enter Try.func12, Try.ntmps12
  go_upto_region 1 with fail
  rw [← hW]
  rw [← hg5]
  clear hW hg5 KZ
  go_upto_region 4 with (first
    | (go_at_call 27; refine MD.out.mono ?_; rintro e w2 ⟨rfl, hw⟩; obtain rfl := hw.symm)
    | (go_at_call 28; refine TL.out.mono ?_; rintro e Wt ⟨rfl, hT, hB⟩
       have T2 := Lib.hid hT
       have B2 := Lib.hid hB
       clear hT hB))
  have T5N := Lib.hid (show g5 ≠ t ∧ g5 + 1 ≠ t by have := NS.out t TW.out.st; omega)
  have R5t := Lib.hid (show Wt.heap[g5]? = some (.cells (pktV p A n c) 28 (0, 0)) from (B2.out.block _ (Array.getElem?_eq_some_iff.1 R5.out).1 T5N.out.1).trans R5.out)
  have R6t := Lib.hid (show Wt.heap[g5 + 1]? = some (.cells (pktV zPkt none 0 0) 28 (0, 0)) from (B2.out.block _ (Array.getElem?_eq_some_iff.1 R6.out).1 T5N.out.2).trans R6.out)
  have FT := Lib.hid (show Fs S w Wt from (Fs.below HB.out).trans (fs_but B2.out TW.out.st))
  have SZT := Lib.hid (show g5 + 2 ≤ Wt.heap.size by have := (Array.getElem?_eq_some_iff.1 R6t.out).1; omega)
  have KR := Lib.hid (fun w' (h : Gr Wt w') => h.row R5t.out)
  have KR6 := Lib.hid (fun w' (h : Gr Wt w') => h.row R6t.out)
  have KLD := Lib.hid (fun w' (h : Gr Wt w') => pkC.PkC.cell (KR.out w' h) OC.out.load)
  have HXt := Lib.hid (show Nums .u8 Wt Wt.heap.size A n xs by
    refine ⟨HX.out.len, fun h0 => ?_⟩
    obtain ⟨b, o, e, hb, hc⟩ := HX.out.at_ h0
    refine ⟨b, o, e, Nat.lt_of_lt_of_le hb FT.out.size, fun i hi => ?_⟩
    have hbs : ¬ S b := fun hs => HSX.out h0 b hs o e
    exact (World.cell?_of_block (w := w) (w' := Wt) (FT.out.block b hb hbs)).trans (hc i hi))
  have GG := Lib.hid (show Gr Wt Wt from Below.refl _ _)
  clear MD TL TW B2 R5 R6 R5t R6t
  go_upto_region 5 with (first
    | go_skip
    | (with_reducible refine atC.at_load 28 5 ?_; refine wpList_load_rowG (by kernel_rfl) 28 (.tmp 5) rfl g5 (by kernel_rfl) _ _ _ _ (KR.out _ GG.out) Try.underlying28 rfl I.out ?_)
    | (go_at_call 21; refine (MY.out Wt).mono ?_; rintro e Wa ⟨rfl, hb⟩
       have Ga := Lib.hid (show Gr Wt Wa from hb)
       clear hb)
    | (with_reducible refine atC.at_load 28 5 ?_; refine wpList_load_rowG (by kernel_rfl) 28 (.tmp 5) rfl g5 (by kernel_rfl) _ _ _ _ (KR.out _ Ga.out) Try.underlying28 rfl I.out ?_)
    | (go_at_call 22; refine (WH.out Wa).mono ?_; rintro e Wb ⟨rfl, hb⟩
       have Gb := Lib.hid (show Gr Wt Wb from Ga.out.trans (hb.mono Ga.out.size))
       have klb := KLD.out Wb Gb.out
       clear hb))
  go_wp2_with (first
    | (with_reducible refine at_buildK 28 ?_; refine adC.wpList_zero rfl 28 rfl (pktV zPkt none 0 0) zpkB ?_)
    | (refine wpList_store_row rfl 28 (.tmp 6) (.tmp 34) rfl (g5 + 1) (pktV zPkt none 0 0) rfl rfl _ _ (KR6.out _ Ga.out) XI.out rfl XO.out ?_))
  have HT9 := Lib.hid (T2.out.below (show Below Wt.heap.size Wt Wa from Ga.out))
  refine bodyPost_ret (v := .tuple #[.agg (pktV zPkt none 0 0), .bool false, .int .i64 3]) (results_cell_tmp2 Try.results12 _ _ (g5 + 1) _ _ _ _ _ _ (by rfl) (setRow_heap _ _ _ _ _ _ (KR6.out _ Ga.out)) Try.underlying28 rfl XI.out (by rfl) (by rfl)) rfl ?_
  refine ⟨rfl, HT9.out.setRow (fun hs => by have := NS.out _ hs; omega) _, ?_⟩
  exact fs_setRow (FT.out.trans (Fs.below Ga.out)) (by rw [← HG5.out]; omega) _
set_option maxRecDepth 100000 in
set_option maxHeartbeats 8000000 in
theorem add_err2 (w : World) (S : Nat → Prop) (t : Nat) (room now0 now : Int) (m : Nat) (ov : Value) (ps : List Pp) (p : Pkt) (A : Option Addr) (n c : Nat) (xs : List Int) (h : TC w S t room now0 m ov ps) (hn0 : -9223372036854775808 ≤ now0 ∧ now0 ≤ 9223372036854775807) (hnw : -9223372036854775808 ≤ now ∧ now ≤ 9223372036854775807) (hp : p.Ok) (hx : Nums .u8 w w.heap.size A n xs) (hsx : 0 < n → ∀ k, S k → ∀ i, A ≠ some ⟨k, i, none⟩) (hn : n ≤ 70000) (hmy : mayP (p, xs) = true) (hwh : wholeP (p, xs) = false) (hz : n = 0) :
    Calls Try.prog 12 #[.pointer (some ⟨t, 0, none⟩), .int .i64 now, .agg (pktV p A n c)] w (fun e w' => e = .returned (.tuple #[.agg (pktV zPkt none 0 0), .bool false, .int .i64 3]) ∧ TC w' S t room (laterT now0 now) m ov ps ∧ Fs S w w') := by
  obtain ⟨g5, hg5⟩ : ∃ g, g = w.heap.size := ⟨_, rfl⟩
  obtain ⟨W, hW⟩ : ∃ W, W = (w.alloc (.cells (pktV p A n c) 28)).alloc (.cells (pktV zPkt none 0 0) 28) := ⟨_, rfl⟩
  have HB := Lib.hid (show Below w.heap.size w W by rw [hW]; exact (alloc_below _ _).trans ((alloc_below _ _).mono (alloc_below _ _).size))
  have R5 := Lib.hid (show W.heap[g5]? = some (.cells (pktV p A n c) 28 (0, 0)) by rw [hW, hg5]; exact (two_rows w _ _ _ _).1)
  have R6 := Lib.hid (show W.heap[g5 + 1]? = some (.cells (pktV zPkt none 0 0) 28 (0, 0)) by rw [hW, hg5]; exact (two_rows w _ _ _ _).2)
  have HG5 := Lib.hid hg5
  have TW := Lib.hid (h.below HB.out)
  have NS := Lib.hid (show ∀ k, S k → k < g5 from fun k hk => by rw [hg5]; exact h.lt k hk)
  have MD := Lib.hid (made_any W S t room now0 m ov ps TW.out)
  have TL := Lib.hid (tell_any W S t room now0 now m ov ps TW.out hn0 hnw)
  obtain ⟨now1, hnow1⟩ : ∃ x, x = laterT now0 now := ⟨_, rfl⟩
  rw [← hnow1] at TL
  try rw [← hnow1]
  try rw [← hnow1] at HBg
  have I := Lib.hid (pkt_info hp A n c)
  have OC := Lib.hid (pkC.pkC hp A n c)
  have HP := Lib.hid hp
  have HX := Lib.hid hx
  have HL := Lib.hid hx.len
  have HN7 := Lib.hid hn
  have HSX := Lib.hid hsx
  have KZ : (zeroValue 28).run Try.prog (w.alloc (.cells (pktV p A n c) 28)) = .ok (.agg (pktV zPkt none 0 0)) (w.alloc (.cells (pktV p A n c) 28)) := zeroPktK _
  have MY := Lib.hid (fun w' => cmay_fg p A n c xs w' hp hx.len (by omega))
  have WH := Lib.hid (fun w' => cwhole_fg p A n c xs w' hp)
  have XI := Lib.hid (pkt_info zPkt_okM none 0 0)
  have XO := Lib.hid (pkt_one zPkt none 0 0)
  clear h hn0 hnw hp hx hsx hn hnow1
  generalize mayP (p, xs) = my at *
  generalize wholeP (p, xs) = wh at *
  subst hmy hwh
  have q0 : ((n : Int) == 0) = true := beq_iff_eq.2 (by omega)
  clear hz
  go_enter Try.func12, Try.ntmps12
  go_upto_region 1 with fail
  rw [← hW]
  rw [← hg5]
  clear hW hg5 KZ
  go_upto_region 4 with (first
    | (go_at_call 27; refine MD.out.mono ?_; rintro e w2 ⟨rfl, hw⟩; obtain rfl := hw.symm)
    | (go_at_call 28; refine TL.out.mono ?_; rintro e Wt ⟨rfl, hT, hB⟩
       have T2 := Lib.hid hT
       have B2 := Lib.hid hB
       clear hT hB))
  have T5N := Lib.hid (show g5 ≠ t ∧ g5 + 1 ≠ t by have := NS.out t TW.out.st; omega)
  have R5t := Lib.hid (show Wt.heap[g5]? = some (.cells (pktV p A n c) 28 (0, 0)) from (B2.out.block _ (Array.getElem?_eq_some_iff.1 R5.out).1 T5N.out.1).trans R5.out)
  have R6t := Lib.hid (show Wt.heap[g5 + 1]? = some (.cells (pktV zPkt none 0 0) 28 (0, 0)) from (B2.out.block _ (Array.getElem?_eq_some_iff.1 R6.out).1 T5N.out.2).trans R6.out)
  have FT := Lib.hid (show Fs S w Wt from (Fs.below HB.out).trans (fs_but B2.out TW.out.st))
  have SZT := Lib.hid (show g5 + 2 ≤ Wt.heap.size by have := (Array.getElem?_eq_some_iff.1 R6t.out).1; omega)
  have KR := Lib.hid (fun w' (h : Gr Wt w') => h.row R5t.out)
  have KR6 := Lib.hid (fun w' (h : Gr Wt w') => h.row R6t.out)
  have KLD := Lib.hid (fun w' (h : Gr Wt w') => pkC.PkC.cell (KR.out w' h) OC.out.load)
  have HXt := Lib.hid (show Nums .u8 Wt Wt.heap.size A n xs by
    refine ⟨HX.out.len, fun h0 => ?_⟩
    obtain ⟨b, o, e, hb, hc⟩ := HX.out.at_ h0
    refine ⟨b, o, e, Nat.lt_of_lt_of_le hb FT.out.size, fun i hi => ?_⟩
    have hbs : ¬ S b := fun hs => HSX.out h0 b hs o e
    exact (World.cell?_of_block (w := w) (w' := Wt) (FT.out.block b hb hbs)).trans (hc i hi))
  have GG := Lib.hid (show Gr Wt Wt from Below.refl _ _)
  clear MD TL TW B2 R5 R6 R5t R6t
  go_upto_region 5 with (first
    | go_skip
    | (with_reducible refine atC.at_load 28 5 ?_; refine wpList_load_rowG (by kernel_rfl) 28 (.tmp 5) rfl g5 (by kernel_rfl) _ _ _ _ (KR.out _ GG.out) Try.underlying28 rfl I.out ?_)
    | (go_at_call 21; refine (MY.out Wt).mono ?_; rintro e Wa ⟨rfl, hb⟩
       have Ga := Lib.hid (show Gr Wt Wa from hb)
       clear hb)
    | (with_reducible refine atC.at_load 28 5 ?_; refine wpList_load_rowG (by kernel_rfl) 28 (.tmp 5) rfl g5 (by kernel_rfl) _ _ _ _ (KR.out _ Ga.out) Try.underlying28 rfl I.out ?_)
    | (go_at_call 22; refine (WH.out Wa).mono ?_; rintro e Wb ⟨rfl, hb⟩
       have Gb := Lib.hid (show Gr Wt Wb from Ga.out.trans (hb.mono Ga.out.size))
       have klb := KLD.out Wb Gb.out
       clear hb))
  clear klb q0
  go_wp2_with (first
    | (with_reducible refine at_buildK 28 ?_; refine adC.wpList_zero rfl 28 rfl (pktV zPkt none 0 0) zpkB ?_)
    | (refine wpList_store_row rfl 28 (.tmp 6) (.tmp 34) rfl (g5 + 1) (pktV zPkt none 0 0) rfl rfl _ _ (KR6.out _ Gb.out) XI.out rfl XO.out ?_))
  have HT9 := Lib.hid (T2.out.below (show Below Wt.heap.size Wt Wb from Gb.out))
  refine bodyPost_ret (v := .tuple #[.agg (pktV zPkt none 0 0), .bool false, .int .i64 3]) (results_cell_tmp2 Try.results12 _ _ (g5 + 1) _ _ _ _ _ _ (by rfl) (setRow_heap _ _ _ _ _ _ (KR6.out _ Gb.out)) Try.underlying28 rfl XI.out (by rfl) (by rfl)) rfl ?_
  refine ⟨rfl, HT9.out.setRow (fun hs => by have := NS.out _ hs; omega) _, ?_⟩
  exact fs_setRow (FT.out.trans (Fs.below Gb.out)) (by rw [← HG5.out]; omega) _
set_option maxRecDepth 100000 in
set_option maxHeartbeats 8000000 in
theorem add_whole (w : World) (S : Nat → Prop) (t : Nat) (room now0 now : Int) (m : Nat) (ov : Value) (ps : List Pp) (p : Pkt) (A : Option Addr) (n c : Nat) (xs : List Int) (h : TC w S t room now0 m ov ps) (hn0 : -9223372036854775808 ≤ now0 ∧ now0 ≤ 9223372036854775807) (hnw : -9223372036854775808 ≤ now ∧ now ≤ 9223372036854775807) (hp : p.Ok) (hx : Nums .u8 w w.heap.size A n xs) (hsx : 0 < n → ∀ k, S k → ∀ i, A ≠ some ⟨k, i, none⟩) (hn : n ≤ 70000) (hmy : mayP (p, xs) = true) (hwh : wholeP (p, xs) = true) :
    Calls Try.prog 12 #[.pointer (some ⟨t, 0, none⟩), .int .i64 now, .agg (pktV p A n c)] w (fun e w' => ∃ A' c', e = .returned (.tuple #[.agg (pktV (joinK p) A' n c'), .bool true, .int .i64 0]) ∧ Nums .u8 w' w'.heap.size A' n xs ∧ n ≤ c' ∧ c' ≤ 9223372036854775807 ∧ TC w' S t room (laterT now0 now) m ov ps ∧ Fs S w w') := by
  obtain ⟨g5, hg5⟩ : ∃ g, g = w.heap.size := ⟨_, rfl⟩
  obtain ⟨W, hW⟩ : ∃ W, W = (w.alloc (.cells (pktV p A n c) 28)).alloc (.cells (pktV zPkt none 0 0) 28) := ⟨_, rfl⟩
  have HB := Lib.hid (show Below w.heap.size w W by rw [hW]; exact (alloc_below _ _).trans ((alloc_below _ _).mono (alloc_below _ _).size))
  have R5 := Lib.hid (show W.heap[g5]? = some (.cells (pktV p A n c) 28 (0, 0)) by rw [hW, hg5]; exact (two_rows w _ _ _ _).1)
  have R6 := Lib.hid (show W.heap[g5 + 1]? = some (.cells (pktV zPkt none 0 0) 28 (0, 0)) by rw [hW, hg5]; exact (two_rows w _ _ _ _).2)
  have HG5 := Lib.hid hg5
  have TW := Lib.hid (h.below HB.out)
  have NS := Lib.hid (show ∀ k, S k → k < g5 from fun k hk => by rw [hg5]; exact h.lt k hk)
  have MD := Lib.hid (made_any W S t room now0 m ov ps TW.out)
  have TL := Lib.hid (tell_any W S t room now0 now m ov ps TW.out hn0 hnw)
  obtain ⟨now1, hnow1⟩ : ∃ x, x = laterT now0 now := ⟨_, rfl⟩
  rw [← hnow1] at TL
  try rw [← hnow1]
  try rw [← hnow1] at HBg
  have I := Lib.hid (pkt_info hp A n c)
  have OC := Lib.hid (pkC.pkC hp A n c)
  have HP := Lib.hid hp
  have HX := Lib.hid hx
  have HL := Lib.hid hx.len
  have HN7 := Lib.hid hn
  have HSX := Lib.hid hsx
  have KZ : (zeroValue 28).run Try.prog (w.alloc (.cells (pktV p A n c) 28)) = .ok (.agg (pktV zPkt none 0 0)) (w.alloc (.cells (pktV p A n c) 28)) := zeroPktK _
  have MY := Lib.hid (fun w' => cmay_fg p A n c xs w' hp hx.len (by omega))
  have WH := Lib.hid (fun w' => cwhole_fg p A n c xs w' hp)
  have XI := Lib.hid (pkt_info zPkt_okM none 0 0)
  have XO := Lib.hid (pkt_one zPkt none 0 0)
  clear h hn0 hnw hp hx hsx hn hnow1
  generalize mayP (p, xs) = my at *
  generalize wholeP (p, xs) = wh at *
  subst hmy hwh
  go_enter Try.func12, Try.ntmps12
  go_upto_region 1 with fail
  rw [← hW]
  rw [← hg5]
  clear hW hg5 KZ
  go_upto_region 4 with (first
    | (go_at_call 27; refine MD.out.mono ?_; rintro e w2 ⟨rfl, hw⟩; obtain rfl := hw.symm)
    | (go_at_call 28; refine TL.out.mono ?_; rintro e Wt ⟨rfl, hT, hB⟩
       have T2 := Lib.hid hT
       have B2 := Lib.hid hB
       clear hT hB))
  have T5N := Lib.hid (show g5 ≠ t ∧ g5 + 1 ≠ t by have := NS.out t TW.out.st; omega)
  have R5t := Lib.hid (show Wt.heap[g5]? = some (.cells (pktV p A n c) 28 (0, 0)) from (B2.out.block _ (Array.getElem?_eq_some_iff.1 R5.out).1 T5N.out.1).trans R5.out)
  have R6t := Lib.hid (show Wt.heap[g5 + 1]? = some (.cells (pktV zPkt none 0 0) 28 (0, 0)) from (B2.out.block _ (Array.getElem?_eq_some_iff.1 R6.out).1 T5N.out.2).trans R6.out)
  have FT := Lib.hid (show Fs S w Wt from (Fs.below HB.out).trans (fs_but B2.out TW.out.st))
  have SZT := Lib.hid (show g5 + 2 ≤ Wt.heap.size by have := (Array.getElem?_eq_some_iff.1 R6t.out).1; omega)
  have KR := Lib.hid (fun w' (h : Gr Wt w') => h.row R5t.out)
  have KR6 := Lib.hid (fun w' (h : Gr Wt w') => h.row R6t.out)
  have KLD := Lib.hid (fun w' (h : Gr Wt w') => pkC.PkC.cell (KR.out w' h) OC.out.load)
  have HXt := Lib.hid (show Nums .u8 Wt Wt.heap.size A n xs by
    refine ⟨HX.out.len, fun h0 => ?_⟩
    obtain ⟨b, o, e, hb, hc⟩ := HX.out.at_ h0
    refine ⟨b, o, e, Nat.lt_of_lt_of_le hb FT.out.size, fun i hi => ?_⟩
    have hbs : ¬ S b := fun hs => HSX.out h0 b hs o e
    exact (World.cell?_of_block (w := w) (w' := Wt) (FT.out.block b hb hbs)).trans (hc i hi))
  have GG := Lib.hid (show Gr Wt Wt from Below.refl _ _)
  clear MD TL TW B2 R5 R6 R5t R6t
  go_upto_region 6 with (first
    | go_skip
    | (with_reducible refine atC.at_load 28 5 ?_; refine wpList_load_rowG (by kernel_rfl) 28 (.tmp 5) rfl g5 (by kernel_rfl) _ _ _ _ (KR.out _ GG.out) Try.underlying28 rfl I.out ?_)
    | (go_at_call 21; refine (MY.out Wt).mono ?_; rintro e Wa ⟨rfl, hb⟩
       have Ga := Lib.hid (show Gr Wt Wa from hb)
       clear hb)
    | (with_reducible refine atC.at_load 28 5 ?_; refine wpList_load_rowG (by kernel_rfl) 28 (.tmp 5) rfl g5 (by kernel_rfl) _ _ _ _ (KR.out _ Ga.out) Try.underlying28 rfl I.out ?_)
    | (go_at_call 22; refine (WH.out Wa).mono ?_; rintro e Wb ⟨rfl, hb⟩
       have Gb := Lib.hid (show Gr Wt Wb from Ga.out.trans (hb.mono Ga.out.size))
       have klb := KLD.out Wb Gb.out
       clear hb))
  clear klb
  go_upto_region 7 with (first
    | (with_reducible refine atC.at_load 28 5 ?_; refine wpList_load_rowG (by kernel_rfl) 28 (.tmp 5) rfl g5 (by kernel_rfl) _ _ _ _ (KR.out _ Gb.out) Try.underlying28 rfl I.out ?_)
    | (go_at_call 22; refine (WH.out Wb).mono ?_; rintro e Wc ⟨rfl, hb⟩
       have Gc := Lib.hid (show Gr Wt Wc from Gb.out.trans (hb.mono Gb.out.size))
       have klc := KLD.out Wc Gc.out
       clear hb))
  obtain ⟨Wy, hWy⟩ : ∃ Wy, Wy = Wc.alloc (.cells #[.slice A n c] 26) := ⟨_, rfl⟩
  have By := Lib.hid (show Below Wc.heap.size Wc Wy by rw [hWy]; exact alloc_below _ _)
  have Gy := Lib.hid (show Gr Wt Wy from Gc.out.trans (By.out.mono Gc.out.size))
  have JN := Lib.hid (joined_any p A n c (some ⟨Wc.heap.size, 0, none⟩) 1 1 n [⟨A, n, c, xs⟩] Wy HP.out ⟨fun _ => ⟨Wc.heap.size, 0, rfl, by rw [hWy, alloc_size]; exact Nat.lt_succ_self _, fun i hi => by
      obtain rfl : i = 0 := by simpa using hi
      rw [hWy]; simp [go_sem]⟩, fun q hq => by
      obtain rfl := List.mem_singleton.1 hq
      exact ⟨(HXt.out.below Gy.out).more Gy.out.size, by have := HN7.out; show n ≤ 100000; omega⟩⟩ (by decide) rfl rfl (by have := HN7.out; omega))
  have HWY := Lib.hid hWy
  have OKJ := Lib.hid (show (joinK p).Ok by
    have hp := HP.out
    unfold joinK
    split
    · exact ⟨hp.la, hp.lb, hp.ya, hp.yb, hp.proto, hp.hops, (show (0 : Int) ≤ 0 ∧ (0 : Int) ≤ 4294967295 by decide), hp.off⟩
    · exact ⟨hp.la, hp.lb, hp.ya, hp.yb, hp.proto, hp.hops, hp.id, hp.off⟩)
  clear hWy
  go_wp2_with (first
    | (with_reducible refine atC.at_load 28 5 ?_; refine wpList_load_rowG (by kernel_rfl) 28 (.tmp 5) rfl g5 (by kernel_rfl) _ _ _ _ (KR.out _ Gc.out) Try.underlying28 rfl I.out ?_)
    | (go_at_call 29; try rw [← HWY.out]
       refine JN.out.mono ?_; rintro e wj ⟨Aj, cj, rfl, oj, gj1, gj2, bj⟩
       have Gj := Lib.hid (show Gr Wt wj from Gy.out.trans (bj.mono Gy.out.size))
       have OJ := Lib.hid oj
       have GJ := Lib.hid (show n ≤ cj ∧ cj ≤ maxLen from ⟨gj1, gj2⟩)
       have IJ := Lib.hid (pkt_info OKJ.out Aj n cj)
       have SJ := Lib.hid (show (pktV zPkt none 0 0).size = (pktV (joinK p) Aj n cj).size by rw [(pkC.pkC OKJ.out Aj n cj).size]; rfl)
       have NJ := Lib.hid (pkt_one (joinK p) Aj n cj)
       clear oj bj gj1 gj2)
    | (refine wpList_store_row rfl 28 (.tmp 6) (.tmp 42) rfl (g5 + 1) (pktV (joinK p) Aj n cj) rfl rfl _ _ (KR6.out _ Gj.out) IJ.out SJ.out NJ.out ?_))
  refine bodyPost_ret (v := .tuple #[.agg (pktV (joinK p) Aj n cj), .bool true, .int .i64 0]) (results_cell_tmp2 Try.results12 _ _ (g5 + 1) _ _ _ _ _ _ (by rfl) (setRow_heap _ _ _ _ _ _ (KR6.out _ Gj.out)) Try.underlying28 rfl IJ.out (by rfl) (by rfl)) rfl ?_
  have HT9 := T2.out.below (show Below Wt.heap.size Wt wj from Gj.out)
  refine ⟨Aj, cj, rfl, ?_, GJ.out.1, by have := GJ.out.2; unfold maxLen at this; omega, HT9.setRow (fun hs => by have := NS.out _ hs; omega) _, ?_⟩
  · have := (OJ.out.keep (w' := wj.setRow (g5 + 1) (pktV (joinK p) Aj n cj)) fun g g1 g2 => setRow_other _ _ _ _ (by have := SZT.out; have := Gy.out.size; omega)).nums
    rwa [show catL [(⟨A, n, c, xs⟩ : Part)] = xs by simp [catL]] at this
  · exact fs_setRow (FT.out.trans (Fs.below Gj.out)) (by rw [← HG5.out]; omega) _
set_option maxRecDepth 100000 in
set_option maxHeartbeats 8000000 in
theorem add_waits (w : World) (S : Nat → Prop) (t : Nat) (room now0 now : Int) (m : Nat) (ov : Value) (ps : List Pp) (p : Pkt) (A : Option Addr) (n c : Nat) (xs : List Int) (h : TC w S t room now0 m ov ps) (hn0 : -9223372036854775808 ≤ now0 ∧ now0 ≤ 9223372036854775807) (hnw : -9223372036854775808 ≤ now ∧ now ≤ 9223372036854775807) (hp : p.Ok) (hx : Nums .u8 w w.heap.size A n xs) (hsx : 0 < n → ∀ k, S k → ∀ i, A ≠ some ⟨k, i, none⟩) (hn : n ≤ 70000) (M1 M2 M3 : World → Nat → World → Prop) (hmy : mayP (p, xs) = true) (hwh : wholeP (p, xs) = false) (hz : n ≠ 0) 
    (HBg : ∀ w1, TC w1 S t room (laterT now0 now) m ov ps → w.heap.size ≤ w1.heap.size → Calls Try.prog 30 #[.pointer (some ⟨t, 0, none⟩), .agg (nmV (nmOf p))] w1 (fun e w2 => ∃ q, e = .returned (ptr q) ∧ M1 w1 q w2 ∧ Fs (Zf S w1) w1 w2))
    (HAd : ∀ w1 q w2, M1 w1 q w2 → Nums .u8 w2 w2.heap.size A n xs → Calls Try.prog 31 #[ptr q, .agg (pktV p A n c)] w2 (fun e w3 => e = .returned (.int .i64 0) ∧ M2 w1 q w3 ∧ Fs (Zf S w1) w2 w3))
    (HAl : ∀ w1 q w3, M2 w1 q w3 → Calls Try.prog 32 #[ptr q] w3 (fun e w4 => e = .returned (.bool false) ∧ M3 w1 q w4 ∧ Fs (Zf S w1) w3 w4)) :
    Calls Try.prog 12 #[.pointer (some ⟨t, 0, none⟩), .int .i64 now, .agg (pktV p A n c)] w (fun e w' => ∃ w1 q wl, e = .returned (.tuple #[.agg (pktV zPkt none 0 0), .bool false, .int .i64 0]) ∧ w.heap.size + 2 ≤ w1.heap.size ∧ M3 w1 q wl ∧ w' = wl.setRow (w.heap.size + 1) (pktV zPkt none 0 0) ∧ Fs (Zf S w1) w1 wl ∧ Fs S w w1) := by
  obtain ⟨g5, hg5⟩ : ∃ g, g = w.heap.size := ⟨_, rfl⟩
  obtain ⟨W, hW⟩ : ∃ W, W = (w.alloc (.cells (pktV p A n c) 28)).alloc (.cells (pktV zPkt none 0 0) 28) := ⟨_, rfl⟩
  have HB := Lib.hid (show Below w.heap.size w W by rw [hW]; exact (alloc_below _ _).trans ((alloc_below _ _).mono (alloc_below _ _).size))
  have R5 := Lib.hid (show W.heap[g5]? = some (.cells (pktV p A n c) 28 (0, 0)) by rw [hW, hg5]; exact (two_rows w _ _ _ _).1)
  have R6 := Lib.hid (show W.heap[g5 + 1]? = some (.cells (pktV zPkt none 0 0) 28 (0, 0)) by rw [hW, hg5]; exact (two_rows w _ _ _ _).2)
  have HG5 := Lib.hid hg5
  have TW := Lib.hid (h.below HB.out)
  have NS := Lib.hid (show ∀ k, S k → k < g5 from fun k hk => by rw [hg5]; exact h.lt k hk)
  have MD := Lib.hid (made_any W S t room now0 m ov ps TW.out)
  have TL := Lib.hid (tell_any W S t room now0 now m ov ps TW.out hn0 hnw)
  obtain ⟨now1, hnow1⟩ : ∃ x, x = laterT now0 now := ⟨_, rfl⟩
  rw [← hnow1] at TL
  try rw [← hnow1]
  try rw [← hnow1] at HBg
  have I := Lib.hid (pkt_info hp A n c)
  have OC := Lib.hid (pkC.pkC hp A n c)
  have HP := Lib.hid hp
  have HX := Lib.hid hx
  have HL := Lib.hid hx.len
  have HN7 := Lib.hid hn
  have HSX := Lib.hid hsx
  have KZ : (zeroValue 28).run Try.prog (w.alloc (.cells (pktV p A n c) 28)) = .ok (.agg (pktV zPkt none 0 0)) (w.alloc (.cells (pktV p A n c) 28)) := zeroPktK _
  have MY := Lib.hid (fun w' => cmay_fg p A n c xs w' hp hx.len (by omega))
  have WH := Lib.hid (fun w' => cwhole_fg p A n c xs w' hp)
  have XI := Lib.hid (pkt_info zPkt_okM none 0 0)
  have XO := Lib.hid (pkt_one zPkt none 0 0)
  clear h hn0 hnw hp hx hsx hn hnow1
  generalize mayP (p, xs) = my at *
  generalize wholeP (p, xs) = wh at *
  subst hmy hwh
  have q0 : ((n : Int) == 0) = false := beq_eq_false_iff_ne.2 (by omega)
  have HBG := Lib.hid HBg
  have HAD := Lib.hid HAd
  have HAL := Lib.hid HAl
  clear hz HBg HAd HAl
  go_enter Try.func12, Try.ntmps12
  go_upto_region 1 with fail
  rw [← hW]
  rw [← hg5]
  clear hW hg5 KZ
  go_upto_region 4 with (first
    | (go_at_call 27; refine MD.out.mono ?_; rintro e w2 ⟨rfl, hw⟩; obtain rfl := hw.symm)
    | (go_at_call 28; refine TL.out.mono ?_; rintro e Wt ⟨rfl, hT, hB⟩
       have T2 := Lib.hid hT
       have B2 := Lib.hid hB
       clear hT hB))
  have T5N := Lib.hid (show g5 ≠ t ∧ g5 + 1 ≠ t by have := NS.out t TW.out.st; omega)
  have R5t := Lib.hid (show Wt.heap[g5]? = some (.cells (pktV p A n c) 28 (0, 0)) from (B2.out.block _ (Array.getElem?_eq_some_iff.1 R5.out).1 T5N.out.1).trans R5.out)
  have R6t := Lib.hid (show Wt.heap[g5 + 1]? = some (.cells (pktV zPkt none 0 0) 28 (0, 0)) from (B2.out.block _ (Array.getElem?_eq_some_iff.1 R6.out).1 T5N.out.2).trans R6.out)
  have FT := Lib.hid (show Fs S w Wt from (Fs.below HB.out).trans (fs_but B2.out TW.out.st))
  have SZT := Lib.hid (show g5 + 2 ≤ Wt.heap.size by have := (Array.getElem?_eq_some_iff.1 R6t.out).1; omega)
  have KR := Lib.hid (fun w' (h : Gr Wt w') => h.row R5t.out)
  have KR6 := Lib.hid (fun w' (h : Gr Wt w') => h.row R6t.out)
  have KLD := Lib.hid (fun w' (h : Gr Wt w') => pkC.PkC.cell (KR.out w' h) OC.out.load)
  have HXt := Lib.hid (show Nums .u8 Wt Wt.heap.size A n xs by
    refine ⟨HX.out.len, fun h0 => ?_⟩
    obtain ⟨b, o, e, hb, hc⟩ := HX.out.at_ h0
    refine ⟨b, o, e, Nat.lt_of_lt_of_le hb FT.out.size, fun i hi => ?_⟩
    have hbs : ¬ S b := fun hs => HSX.out h0 b hs o e
    exact (World.cell?_of_block (w := w) (w' := Wt) (FT.out.block b hb hbs)).trans (hc i hi))
  have GG := Lib.hid (show Gr Wt Wt from Below.refl _ _)
  clear MD TL TW B2 R5 R6 R5t R6t
  go_upto_region 6 with (first
    | go_skip
    | (with_reducible refine atC.at_load 28 5 ?_; refine wpList_load_rowG (by kernel_rfl) 28 (.tmp 5) rfl g5 (by kernel_rfl) _ _ _ _ (KR.out _ GG.out) Try.underlying28 rfl I.out ?_)
    | (go_at_call 21; refine (MY.out Wt).mono ?_; rintro e Wa ⟨rfl, hb⟩
       have Ga := Lib.hid (show Gr Wt Wa from hb)
       clear hb)
    | (with_reducible refine atC.at_load 28 5 ?_; refine wpList_load_rowG (by kernel_rfl) 28 (.tmp 5) rfl g5 (by kernel_rfl) _ _ _ _ (KR.out _ Ga.out) Try.underlying28 rfl I.out ?_)
    | (go_at_call 22; refine (WH.out Wa).mono ?_; rintro e Wb ⟨rfl, hb⟩
       have Gb := Lib.hid (show Gr Wt Wb from Ga.out.trans (hb.mono Ga.out.size))
       have klb := KLD.out Wb Gb.out
       clear hb))
  clear klb q0
  go_upto_region 8 with (first
    | (with_reducible refine atC.at_load 28 5 ?_; refine wpList_load_rowG (by kernel_rfl) 28 (.tmp 5) rfl g5 (by kernel_rfl) _ _ _ _ (KR.out _ Gb.out) Try.underlying28 rfl I.out ?_)
    | (go_at_call 22; refine (WH.out Wb).mono ?_; rintro e Wc ⟨rfl, hb⟩
       have Gc := Lib.hid (show Gr Wt Wc from Gb.out.trans (hb.mono Gb.out.size))
       have klc := KLD.out Wc Gc.out
       clear hb))
  have CS := Lib.hid (show ∀ j v, (adrC p.s p.a)[j]? = some v → Wc.cell? ⟨g5, 0 + j, none⟩ = some v from fun j v hv => pkC.PkC.cell (KR.out Wc Gc.out) (OC.out.src j v hv))
  have CD := Lib.hid (show ∀ j v, (adrC p.t p.b)[j]? = some v → Wc.cell? ⟨g5, 17 + j, none⟩ = some v from fun j v hv => pkC.PkC.cell (KR.out Wc Gc.out) (OC.out.dst j v hv))
  have ki : Wc.cell? ⟨g5, 36, none⟩ = some (.int .u32 p.id) := pkC.PkC.cell (KR.out Wc Gc.out) OC.out.id
  have kp : Wc.cell? ⟨g5, 34, none⟩ = some (.int .u8 p.proto) := pkC.PkC.cell (KR.out Wc Gc.out) OC.out.proto
  have IS := Lib.hid (adr_infoB (s := p.s) HP.out.la)
  have ID := Lib.hid (adr_infoB (s := p.t) HP.out.lb)
  have NB := Lib.hid (nm_built HP.out)
  have INm := Lib.hid (nm_infoV (nm_ok HP.out))
  have SNm := Lib.hid (show (nmV zNm).size = (nmV (nmOf p)).size by rw [nmV_size zNm_ok, nmV_size (nm_ok HP.out)])
  have ONm := Lib.hid (show (nmV (nmOf p)).all (·.oneCell') = true by unfold nmV; rw [List.all_toArray]; exact List.all_eq_true.2 (nm_one (nmOf p)))
  generalize nmV (nmOf p) = NV at *
  generalize adrC p.s p.a = LS at *
  generalize adrC p.t p.b = LD at *
  generalize p.id = idv at *
  generalize p.proto = prv at *
  have hzn := zeroNm
  clear klc
  go_upto_region 9 with (first
    | (refine partC.wpList_load_part rfl 24 (.tmp 43) rfl g5 0 rfl LS _ CS.out Try.underlying24 rfl IS.out ?_)
    | (refine partC.wpList_load_part rfl 24 (.tmp 45) rfl g5 17 rfl LD _ CD.out Try.underlying24 rfl ID.out ?_)
    | (with_reducible refine at_buildK 72 ?_; refine wpList_runG (by kernel_rfl) _ (built_runK (T := 72) (L := [(0, .agg LS.toArray), (1, .agg LD.toArray), (2, .int .u32 idv), (3, .int .u8 prv)]) rfl rfl NB.out) ?_)
    | (refine wpList_store_row rfl 72 (.tmp 9) (.tmp 51) rfl Wc.heap.size NV rfl rfl _ _ (heap_alloc_new _ _) INm.out SNm.out ONm.out ?_; rw [World.setRow_alloc_new]))
  clear hzn ki kp CS CD
  obtain ⟨g9, hg9⟩ : ∃ g, g = Wc.heap.size := ⟨_, rfl⟩
  obtain ⟨W8, hW8⟩ : ∃ W8, W8 = Wc.alloc (.cells NV 72) := ⟨_, rfl⟩
  have G8 := Lib.hid (show Gr Wt W8 by rw [hW8]; exact Gc.out.trans ((alloc_below _ _).mono Gc.out.size))
  have R98 := Lib.hid (show W8.heap[g9]? = some (.cells NV 72 (0, 0)) by rw [hW8, hg9]; exact heap_alloc_new _ _)
  have T8 := Lib.hid (T2.out.below (show Below Wt.heap.size Wt W8 from G8.out))
  have F8 := Lib.hid (show Fs S w W8 from FT.out.trans (Fs.below G8.out))
  have S8 := Lib.hid (show g5 + 2 ≤ W8.heap.size by have := SZT.out; have := G8.out.size; omega)
  have Z5 := Lib.hid (show ¬ Zf S W8 g5 ∧ ¬ Zf S W8 (g5 + 1) ∧ ¬ Zf S W8 g9 by
    refine ⟨?_, ?_, ?_⟩
    · rintro (h | h)
      · have := NS.out _ h; omega
      · have := S8.out; omega
    · rintro (h | h)
      · have := NS.out _ h; omega
      · have := S8.out; omega
    · rintro (h | h)
      · have := NS.out _ h; have := SZT.out; have := Gc.out.size; omega
      · have := (Array.getElem?_eq_some_iff.1 R98.out).1; omega)
  have K5 := Lib.hid (fun w' (h : Fs (Zf S W8) W8 w') => (show w'.heap[g5]? = some (.cells (pktV p A n c) 28 (0, 0)) from h.row (KR.out W8 G8.out) Z5.out.1))
  have K6 := Lib.hid (fun w' (h : Fs (Zf S W8) W8 w') => (show w'.heap[g5 + 1]? = some (.cells (pktV zPkt none 0 0) 28 (0, 0)) from h.row (KR6.out W8 G8.out) Z5.out.2.1))
  have K9 := Lib.hid (fun w' (h : Fs (Zf S W8) W8 w') => (show w'.heap[g9]? = some (.cells NV 72 (0, 0)) from h.row R98.out Z5.out.2.2))
  have KX := Lib.hid (fun w' (h : Fs (Zf S W8) W8 w') => (show Nums .u8 w' w'.heap.size A n xs by
    have h8 := (HXt.out.below G8.out).more G8.out.size
    refine ⟨h8.len, fun h0 => ?_⟩
    obtain ⟨b, o, e, hb, hc⟩ := h8.at_ h0
    obtain ⟨b', o', e', hb', -⟩ := HXt.out.at_ h0
    have hbs : ¬ Zf S W8 b := by
      rintro (h | h)
      · exact HSX.out h0 b h o e
      · rw [e] at e'; injection e' with e'; injection e' with e' _ _; subst e'; have := G8.out.size; omega
    refine ⟨b, o, e, Nat.lt_of_lt_of_le hb h.size, fun i hi => ?_⟩
    exact (World.cell?_of_block (w := W8) (w' := w') (h.block b hb hbs)).trans (hc i hi)))
  rw [← hW8, ← hg9]
  have BGN := Lib.hid (HBG.out W8 T8.out F8.out.size)
  clear hW8 hg9 HBG GG KLD MY WH
  unfold ptr at HAL
  unfold ptr at BGN HAD
  go_upto_region 10 with (first
    | (with_reducible refine atC.at_load 72 9 ?_; refine wpList_load_rowG (by kernel_rfl) 72 (.tmp 9) rfl g9 (by kernel_rfl) _ _ _ _ (R98.out) Try.underlying72 rfl INm.out ?_)
    | (go_at_call 30; refine BGN.out.mono ?_; rintro e w2 ⟨q, rfl, hm, hf⟩
       have H1 := Lib.hid hm
       have F2 := Lib.hid hf
       clear hm hf))
  have ADD := Lib.hid (HAD.out W8 q w2 H1.out (KX.out w2 F2.out))
  go_upto_region 11 with (first
    | (with_reducible refine atC.at_load 28 5 ?_; refine wpList_load_rowG (by kernel_rfl) 28 (.tmp 5) rfl g5 (by kernel_rfl) _ _ _ _ (K5.out _ F2.out) Try.underlying28 rfl I.out ?_)
    | (go_at_call 31; refine ADD.out.mono ?_; rintro e w3 ⟨rfl, hm, hf⟩
       have H2 := Lib.hid hm
       have F3 := Lib.hid (F2.out.trans hf)
       clear hm hf))
  have ALL := Lib.hid (HAL.out W8 q w3 H2.out)
  go_upto_region 12 with (first
    | go_skip
    | (go_at_call 32; refine ALL.out.mono ?_; rintro e w4 ⟨rfl, hm, hf⟩
       have H3 := Lib.hid hm
       have F4 := Lib.hid (F3.out.trans hf)
       clear hm hf))
  go_wp2_with (first
    | (with_reducible refine at_buildK 28 ?_; refine adC.wpList_zero rfl 28 rfl (pktV zPkt none 0 0) zpkB ?_)
    | (refine wpList_store_row rfl 28 (.tmp 6) (.tmp 65) rfl (g5 + 1) (pktV zPkt none 0 0) rfl rfl _ _ (K6.out _ F4.out) XI.out rfl XO.out ?_))
  refine bodyPost_ret (v := .tuple #[.agg (pktV zPkt none 0 0), .bool false, .int .i64 0]) (results_cell_tmp2 Try.results12 _ _ (g5 + 1) _ _ _ _ _ _ (by rfl) (setRow_heap _ _ _ _ _ _ (K6.out _ F4.out)) Try.underlying28 rfl XI.out (by rfl) (by rfl)) rfl ?_
  exact ⟨W8, q, w4, rfl, by rw [← HG5.out]; exact S8.out, H3.out, by rw [← HG5.out], F4.out, F8.out⟩
set_option maxRecDepth 100000 in
set_option maxHeartbeats 8000000 in
theorem add_fails (w : World) (S : Nat → Prop) (t : Nat) (room now0 now : Int) (m : Nat) (ov : Value) (ps : List Pp) (p : Pkt) (A : Option Addr) (n c : Nat) (xs : List Int) (h : TC w S t room now0 m ov ps) (hn0 : -9223372036854775808 ≤ now0 ∧ now0 ≤ 9223372036854775807) (hnw : -9223372036854775808 ≤ now ∧ now ≤ 9223372036854775807) (hp : p.Ok) (hx : Nums .u8 w w.heap.size A n xs) (hsx : 0 < n → ∀ k, S k → ∀ i, A ≠ some ⟨k, i, none⟩) (hn : n ≤ 70000) (M1 M2 M4 : World → Nat → World → Prop) (er : Int) (hmy : mayP (p, xs) = true) (hwh : wholeP (p, xs) = false) (hz : n ≠ 0) (her : er ≠ 0)
    (HBg : ∀ w1, TC w1 S t room (laterT now0 now) m ov ps → w.heap.size ≤ w1.heap.size → Calls Try.prog 30 #[.pointer (some ⟨t, 0, none⟩), .agg (nmV (nmOf p))] w1 (fun e w2 => ∃ q, e = .returned (ptr q) ∧ M1 w1 q w2 ∧ Fs (Zf S w1) w1 w2))
    (HAd : ∀ w1 q w2, M1 w1 q w2 → Nums .u8 w2 w2.heap.size A n xs → Calls Try.prog 31 #[ptr q, .agg (pktV p A n c)] w2 (fun e w3 => e = .returned (.int .i64 er) ∧ M2 w1 q w3 ∧ Fs (Zf S w1) w2 w3))
    (HDr : ∀ w1 q w4, M2 w1 q w4 → Calls Try.prog 33 #[.pointer (some ⟨t, 0, none⟩), .agg (nmV (nmOf p))] w4 (fun e w5 => e = .returned (.tuple #[]) ∧ M4 w1 q w5 ∧ Fs (Zf S w1) w4 w5)) :
    Calls Try.prog 12 #[.pointer (some ⟨t, 0, none⟩), .int .i64 now, .agg (pktV p A n c)] w (fun e w' => ∃ w1 q wl, e = .returned (.tuple #[.agg (pktV zPkt none 0 0), .bool false, .int .i64 er]) ∧ w.heap.size + 2 ≤ w1.heap.size ∧ M4 w1 q wl ∧ w' = wl.setRow (w.heap.size + 1) (pktV zPkt none 0 0) ∧ Fs (Zf S w1) w1 wl ∧ Fs S w w1) := by
  obtain ⟨g5, hg5⟩ : ∃ g, g = w.heap.size := ⟨_, rfl⟩
  obtain ⟨W, hW⟩ : ∃ W, W = (w.alloc (.cells (pktV p A n c) 28)).alloc (.cells (pktV zPkt none 0 0) 28) := ⟨_, rfl⟩
  have HB := Lib.hid (show Below w.heap.size w W by rw [hW]; exact (alloc_below _ _).trans ((alloc_below _ _).mono (alloc_below _ _).size))
  have R5 := Lib.hid (show W.heap[g5]? = some (.cells (pktV p A n c) 28 (0, 0)) by rw [hW, hg5]; exact (two_rows w _ _ _ _).1)
  have R6 := Lib.hid (show W.heap[g5 + 1]? = some (.cells (pktV zPkt none 0 0) 28 (0, 0)) by rw [hW, hg5]; exact (two_rows w _ _ _ _).2)
  have HG5 := Lib.hid hg5
  have TW := Lib.hid (h.below HB.out)
  have NS := Lib.hid (show ∀ k, S k → k < g5 from fun k hk => by rw [hg5]; exact h.lt k hk)
  have MD := Lib.hid (made_any W S t room now0 m ov ps TW.out)
  have TL := Lib.hid (tell_any W S t room now0 now m ov ps TW.out hn0 hnw)
  obtain ⟨now1, hnow1⟩ : ∃ x, x = laterT now0 now := ⟨_, rfl⟩
  rw [← hnow1] at TL
  try rw [← hnow1]
  try rw [← hnow1] at HBg
  have I := Lib.hid (pkt_info hp A n c)
  have OC := Lib.hid (pkC.pkC hp A n c)
  have HP := Lib.hid hp
  have HX := Lib.hid hx
  have HL := Lib.hid hx.len
  have HN7 := Lib.hid hn
  have HSX := Lib.hid hsx
  have KZ : (zeroValue 28).run Try.prog (w.alloc (.cells (pktV p A n c) 28)) = .ok (.agg (pktV zPkt none 0 0)) (w.alloc (.cells (pktV p A n c) 28)) := zeroPktK _
  have MY := Lib.hid (fun w' => cmay_fg p A n c xs w' hp hx.len (by omega))
  have WH := Lib.hid (fun w' => cwhole_fg p A n c xs w' hp)
  have XI := Lib.hid (pkt_info zPkt_okM none 0 0)
  have XO := Lib.hid (pkt_one zPkt none 0 0)
  clear h hn0 hnw hp hx hsx hn hnow1
  generalize mayP (p, xs) = my at *
  generalize wholeP (p, xs) = wh at *
  subst hmy hwh
  have q0 : ((n : Int) == 0) = false := beq_eq_false_iff_ne.2 (by omega)
  have HBG := Lib.hid HBg
  have HAD := Lib.hid HAd
  have HDR := Lib.hid HDr
  have qe : (er == 0) = false := beq_eq_false_iff_ne.2 her
  have qe2 : (er != 0) = true := by simp [her]
  clear hz HBg HAd HDr her
  go_enter Try.func12, Try.ntmps12
  go_upto_region 1 with fail
  rw [← hW]
  rw [← hg5]
  clear hW hg5 KZ
  go_upto_region 4 with (first
    | (go_at_call 27; refine MD.out.mono ?_; rintro e w2 ⟨rfl, hw⟩; obtain rfl := hw.symm)
    | (go_at_call 28; refine TL.out.mono ?_; rintro e Wt ⟨rfl, hT, hB⟩
       have T2 := Lib.hid hT
       have B2 := Lib.hid hB
       clear hT hB))
  have T5N := Lib.hid (show g5 ≠ t ∧ g5 + 1 ≠ t by have := NS.out t TW.out.st; omega)
  have R5t := Lib.hid (show Wt.heap[g5]? = some (.cells (pktV p A n c) 28 (0, 0)) from (B2.out.block _ (Array.getElem?_eq_some_iff.1 R5.out).1 T5N.out.1).trans R5.out)
  have R6t := Lib.hid (show Wt.heap[g5 + 1]? = some (.cells (pktV zPkt none 0 0) 28 (0, 0)) from (B2.out.block _ (Array.getElem?_eq_some_iff.1 R6.out).1 T5N.out.2).trans R6.out)
  have FT := Lib.hid (show Fs S w Wt from (Fs.below HB.out).trans (fs_but B2.out TW.out.st))
  have SZT := Lib.hid (show g5 + 2 ≤ Wt.heap.size by have := (Array.getElem?_eq_some_iff.1 R6t.out).1; omega)
  have KR := Lib.hid (fun w' (h : Gr Wt w') => h.row R5t.out)
  have KR6 := Lib.hid (fun w' (h : Gr Wt w') => h.row R6t.out)
  have KLD := Lib.hid (fun w' (h : Gr Wt w') => pkC.PkC.cell (KR.out w' h) OC.out.load)
  have HXt := Lib.hid (show Nums .u8 Wt Wt.heap.size A n xs by
    refine ⟨HX.out.len, fun h0 => ?_⟩
    obtain ⟨b, o, e, hb, hc⟩ := HX.out.at_ h0
    refine ⟨b, o, e, Nat.lt_of_lt_of_le hb FT.out.size, fun i hi => ?_⟩
    have hbs : ¬ S b := fun hs => HSX.out h0 b hs o e
    exact (World.cell?_of_block (w := w) (w' := Wt) (FT.out.block b hb hbs)).trans (hc i hi))
  have GG := Lib.hid (show Gr Wt Wt from Below.refl _ _)
  clear MD TL TW B2 R5 R6 R5t R6t
  go_upto_region 6 with (first
    | go_skip
    | (with_reducible refine atC.at_load 28 5 ?_; refine wpList_load_rowG (by kernel_rfl) 28 (.tmp 5) rfl g5 (by kernel_rfl) _ _ _ _ (KR.out _ GG.out) Try.underlying28 rfl I.out ?_)
    | (go_at_call 21; refine (MY.out Wt).mono ?_; rintro e Wa ⟨rfl, hb⟩
       have Ga := Lib.hid (show Gr Wt Wa from hb)
       clear hb)
    | (with_reducible refine atC.at_load 28 5 ?_; refine wpList_load_rowG (by kernel_rfl) 28 (.tmp 5) rfl g5 (by kernel_rfl) _ _ _ _ (KR.out _ Ga.out) Try.underlying28 rfl I.out ?_)
    | (go_at_call 22; refine (WH.out Wa).mono ?_; rintro e Wb ⟨rfl, hb⟩
       have Gb := Lib.hid (show Gr Wt Wb from Ga.out.trans (hb.mono Ga.out.size))
       have klb := KLD.out Wb Gb.out
       clear hb))
  clear klb q0
  go_upto_region 8 with (first
    | (with_reducible refine atC.at_load 28 5 ?_; refine wpList_load_rowG (by kernel_rfl) 28 (.tmp 5) rfl g5 (by kernel_rfl) _ _ _ _ (KR.out _ Gb.out) Try.underlying28 rfl I.out ?_)
    | (go_at_call 22; refine (WH.out Wb).mono ?_; rintro e Wc ⟨rfl, hb⟩
       have Gc := Lib.hid (show Gr Wt Wc from Gb.out.trans (hb.mono Gb.out.size))
       have klc := KLD.out Wc Gc.out
       clear hb))
  have CS := Lib.hid (show ∀ j v, (adrC p.s p.a)[j]? = some v → Wc.cell? ⟨g5, 0 + j, none⟩ = some v from fun j v hv => pkC.PkC.cell (KR.out Wc Gc.out) (OC.out.src j v hv))
  have CD := Lib.hid (show ∀ j v, (adrC p.t p.b)[j]? = some v → Wc.cell? ⟨g5, 17 + j, none⟩ = some v from fun j v hv => pkC.PkC.cell (KR.out Wc Gc.out) (OC.out.dst j v hv))
  have ki : Wc.cell? ⟨g5, 36, none⟩ = some (.int .u32 p.id) := pkC.PkC.cell (KR.out Wc Gc.out) OC.out.id
  have kp : Wc.cell? ⟨g5, 34, none⟩ = some (.int .u8 p.proto) := pkC.PkC.cell (KR.out Wc Gc.out) OC.out.proto
  have IS := Lib.hid (adr_infoB (s := p.s) HP.out.la)
  have ID := Lib.hid (adr_infoB (s := p.t) HP.out.lb)
  have NB := Lib.hid (nm_built HP.out)
  have INm := Lib.hid (nm_infoV (nm_ok HP.out))
  have SNm := Lib.hid (show (nmV zNm).size = (nmV (nmOf p)).size by rw [nmV_size zNm_ok, nmV_size (nm_ok HP.out)])
  have ONm := Lib.hid (show (nmV (nmOf p)).all (·.oneCell') = true by unfold nmV; rw [List.all_toArray]; exact List.all_eq_true.2 (nm_one (nmOf p)))
  generalize nmV (nmOf p) = NV at *
  generalize adrC p.s p.a = LS at *
  generalize adrC p.t p.b = LD at *
  generalize p.id = idv at *
  generalize p.proto = prv at *
  have hzn := zeroNm
  clear klc
  go_upto_region 9 with (first
    | (refine partC.wpList_load_part rfl 24 (.tmp 43) rfl g5 0 rfl LS _ CS.out Try.underlying24 rfl IS.out ?_)
    | (refine partC.wpList_load_part rfl 24 (.tmp 45) rfl g5 17 rfl LD _ CD.out Try.underlying24 rfl ID.out ?_)
    | (with_reducible refine at_buildK 72 ?_; refine wpList_runG (by kernel_rfl) _ (built_runK (T := 72) (L := [(0, .agg LS.toArray), (1, .agg LD.toArray), (2, .int .u32 idv), (3, .int .u8 prv)]) rfl rfl NB.out) ?_)
    | (refine wpList_store_row rfl 72 (.tmp 9) (.tmp 51) rfl Wc.heap.size NV rfl rfl _ _ (heap_alloc_new _ _) INm.out SNm.out ONm.out ?_; rw [World.setRow_alloc_new]))
  clear hzn ki kp CS CD
  obtain ⟨g9, hg9⟩ : ∃ g, g = Wc.heap.size := ⟨_, rfl⟩
  obtain ⟨W8, hW8⟩ : ∃ W8, W8 = Wc.alloc (.cells NV 72) := ⟨_, rfl⟩
  have G8 := Lib.hid (show Gr Wt W8 by rw [hW8]; exact Gc.out.trans ((alloc_below _ _).mono Gc.out.size))
  have R98 := Lib.hid (show W8.heap[g9]? = some (.cells NV 72 (0, 0)) by rw [hW8, hg9]; exact heap_alloc_new _ _)
  have T8 := Lib.hid (T2.out.below (show Below Wt.heap.size Wt W8 from G8.out))
  have F8 := Lib.hid (show Fs S w W8 from FT.out.trans (Fs.below G8.out))
  have S8 := Lib.hid (show g5 + 2 ≤ W8.heap.size by have := SZT.out; have := G8.out.size; omega)
  have Z5 := Lib.hid (show ¬ Zf S W8 g5 ∧ ¬ Zf S W8 (g5 + 1) ∧ ¬ Zf S W8 g9 by
    refine ⟨?_, ?_, ?_⟩
    · rintro (h | h)
      · have := NS.out _ h; omega
      · have := S8.out; omega
    · rintro (h | h)
      · have := NS.out _ h; omega
      · have := S8.out; omega
    · rintro (h | h)
      · have := NS.out _ h; have := SZT.out; have := Gc.out.size; omega
      · have := (Array.getElem?_eq_some_iff.1 R98.out).1; omega)
  have K5 := Lib.hid (fun w' (h : Fs (Zf S W8) W8 w') => (show w'.heap[g5]? = some (.cells (pktV p A n c) 28 (0, 0)) from h.row (KR.out W8 G8.out) Z5.out.1))
  have K6 := Lib.hid (fun w' (h : Fs (Zf S W8) W8 w') => (show w'.heap[g5 + 1]? = some (.cells (pktV zPkt none 0 0) 28 (0, 0)) from h.row (KR6.out W8 G8.out) Z5.out.2.1))
  have K9 := Lib.hid (fun w' (h : Fs (Zf S W8) W8 w') => (show w'.heap[g9]? = some (.cells NV 72 (0, 0)) from h.row R98.out Z5.out.2.2))
  have KX := Lib.hid (fun w' (h : Fs (Zf S W8) W8 w') => (show Nums .u8 w' w'.heap.size A n xs by
    have h8 := (HXt.out.below G8.out).more G8.out.size
    refine ⟨h8.len, fun h0 => ?_⟩
    obtain ⟨b, o, e, hb, hc⟩ := h8.at_ h0
    obtain ⟨b', o', e', hb', -⟩ := HXt.out.at_ h0
    have hbs : ¬ Zf S W8 b := by
      rintro (h | h)
      · exact HSX.out h0 b h o e
      · rw [e] at e'; injection e' with e'; injection e' with e' _ _; subst e'; have := G8.out.size; omega
    refine ⟨b, o, e, Nat.lt_of_lt_of_le hb h.size, fun i hi => ?_⟩
    exact (World.cell?_of_block (w := W8) (w' := w') (h.block b hb hbs)).trans (hc i hi)))
  rw [← hW8, ← hg9]
  have BGN := Lib.hid (HBG.out W8 T8.out F8.out.size)
  clear hW8 hg9 HBG GG KLD MY WH
  unfold ptr at BGN HAD
  go_upto_region 10 with (first
    | (with_reducible refine atC.at_load 72 9 ?_; refine wpList_load_rowG (by kernel_rfl) 72 (.tmp 9) rfl g9 (by kernel_rfl) _ _ _ _ (R98.out) Try.underlying72 rfl INm.out ?_)
    | (go_at_call 30; refine BGN.out.mono ?_; rintro e w2 ⟨q, rfl, hm, hf⟩
       have H1 := Lib.hid hm
       have F2 := Lib.hid hf
       clear hm hf))
  have ADD := Lib.hid (HAD.out W8 q w2 H1.out (KX.out w2 F2.out))
  go_upto_region 11 with (first
    | (with_reducible refine atC.at_load 28 5 ?_; refine wpList_load_rowG (by kernel_rfl) 28 (.tmp 5) rfl g5 (by kernel_rfl) _ _ _ _ (K5.out _ F2.out) Try.underlying28 rfl I.out ?_)
    | (go_at_call 31; refine ADD.out.mono ?_; rintro e w3 ⟨rfl, hm, hf⟩
       have H2 := Lib.hid hm
       have F3 := Lib.hid (F2.out.trans hf)
       clear hm hf))
  go_upto_region 13 with go_skip
  go_upto_region 15 with (first
    | (with_reducible refine atC.at_load 72 9 ?_; refine wpList_load_rowG (by kernel_rfl) 72 (.tmp 9) rfl g9 (by kernel_rfl) _ _ _ _ (K9.out _ F3.out) Try.underlying72 rfl INm.out ?_)
    | (go_at_call 33; refine (HDR.out W8 q w3 H2.out).mono ?_; rintro e w5 ⟨rfl, hm, hf⟩
       have H4 := Lib.hid hm
       have F5 := Lib.hid (F3.out.trans hf)
       clear hm hf))
  go_wp2_with (first
    | (with_reducible refine at_buildK 28 ?_; refine adC.wpList_zero rfl 28 rfl (pktV zPkt none 0 0) zpkB ?_)
    | (refine wpList_store_row rfl 28 (.tmp 6) (.tmp 71) rfl (g5 + 1) (pktV zPkt none 0 0) rfl rfl _ _ (K6.out _ F5.out) XI.out rfl XO.out ?_))
  refine bodyPost_ret (v := .tuple #[.agg (pktV zPkt none 0 0), .bool false, .int .i64 er]) (results_cell_tmp2 Try.results12 _ _ (g5 + 1) _ _ _ _ _ _ (by rfl) (setRow_heap _ _ _ _ _ _ (K6.out _ F5.out)) Try.underlying28 rfl XI.out (by rfl) (by rfl)) rfl ?_
  exact ⟨W8, q, w5, rfl, by rw [← HG5.out]; exact S8.out, H4.out, by rw [← HG5.out], F5.out, F8.out⟩
set_option maxRecDepth 100000 in
set_option maxHeartbeats 8000000 in
theorem add_comes (w : World) (S : Nat → Prop) (t : Nat) (room now0 now : Int) (m : Nat) (ov : Value) (ps : List Pp) (p : Pkt) (A : Option Addr) (n c : Nat) (xs : List Int) (h : TC w S t room now0 m ov ps) (hn0 : -9223372036854775808 ≤ now0 ∧ now0 ≤ 9223372036854775807) (hnw : -9223372036854775808 ≤ now ∧ now ≤ 9223372036854775807) (hp : p.Ok) (hx : Nums .u8 w w.heap.size A n xs) (hsx : 0 < n → ∀ k, S k → ∀ i, A ≠ some ⟨k, i, none⟩) (hn : n ≤ 70000) (M1 M2 M3 M4 : World → Nat → World → Prop) (M5 : World → World → Option Addr → Nat → Nat → Prop) (r : Pkt) (hr : r.Ok) (hmy : mayP (p, xs) = true) (hwh : wholeP (p, xs) = false) (hz : n ≠ 0) 
    (HBg : ∀ w1, TC w1 S t room (laterT now0 now) m ov ps → w.heap.size ≤ w1.heap.size → Calls Try.prog 30 #[.pointer (some ⟨t, 0, none⟩), .agg (nmV (nmOf p))] w1 (fun e w2 => ∃ q, e = .returned (ptr q) ∧ M1 w1 q w2 ∧ Fs (Zf S w1) w1 w2))
    (HAd : ∀ w1 q w2, M1 w1 q w2 → Nums .u8 w2 w2.heap.size A n xs → Calls Try.prog 31 #[ptr q, .agg (pktV p A n c)] w2 (fun e w3 => e = .returned (.int .i64 0) ∧ M2 w1 q w3 ∧ Fs (Zf S w1) w2 w3))
    (HAl : ∀ w1 q w3, M2 w1 q w3 → Calls Try.prog 32 #[ptr q] w3 (fun e w4 => e = .returned (.bool true) ∧ M3 w1 q w4 ∧ Fs (Zf S w1) w3 w4))
    (HDr : ∀ w1 q w4, M3 w1 q w4 → Calls Try.prog 33 #[.pointer (some ⟨t, 0, none⟩), .agg (nmV (nmOf p))] w4 (fun e w5 => e = .returned (.tuple #[]) ∧ M4 w1 q w5 ∧ Fs (Zf S w1) w4 w5))
    (HWh : ∀ w1 q w5, M4 w1 q w5 → Calls Try.prog 34 #[ptr q] w5 (fun e w6 => ∃ A' k c', e = .returned (.agg (pktV r A' k c')) ∧ M5 w1 w6 A' k c' ∧ Fs (Zf S w1) w5 w6)) :
    Calls Try.prog 12 #[.pointer (some ⟨t, 0, none⟩), .int .i64 now, .agg (pktV p A n c)] w (fun e w' => ∃ w1 wl A' k c', e = .returned (.tuple #[.agg (pktV r A' k c'), .bool true, .int .i64 0]) ∧ w.heap.size + 2 ≤ w1.heap.size ∧ M5 w1 wl A' k c' ∧ w' = wl.setRow (w.heap.size + 1) (pktV r A' k c') ∧ Fs (Zf S w1) w1 wl ∧ Fs S w w1) := by
  obtain ⟨g5, hg5⟩ : ∃ g, g = w.heap.size := ⟨_, rfl⟩
  obtain ⟨W, hW⟩ : ∃ W, W = (w.alloc (.cells (pktV p A n c) 28)).alloc (.cells (pktV zPkt none 0 0) 28) := ⟨_, rfl⟩
  have HB := Lib.hid (show Below w.heap.size w W by rw [hW]; exact (alloc_below _ _).trans ((alloc_below _ _).mono (alloc_below _ _).size))
  have R5 := Lib.hid (show W.heap[g5]? = some (.cells (pktV p A n c) 28 (0, 0)) by rw [hW, hg5]; exact (two_rows w _ _ _ _).1)
  have R6 := Lib.hid (show W.heap[g5 + 1]? = some (.cells (pktV zPkt none 0 0) 28 (0, 0)) by rw [hW, hg5]; exact (two_rows w _ _ _ _).2)
  have HG5 := Lib.hid hg5
  have TW := Lib.hid (h.below HB.out)
  have NS := Lib.hid (show ∀ k, S k → k < g5 from fun k hk => by rw [hg5]; exact h.lt k hk)
  have MD := Lib.hid (made_any W S t room now0 m ov ps TW.out)
  have TL := Lib.hid (tell_any W S t room now0 now m ov ps TW.out hn0 hnw)
  obtain ⟨now1, hnow1⟩ : ∃ x, x = laterT now0 now := ⟨_, rfl⟩
  rw [← hnow1] at TL
  try rw [← hnow1]
  try rw [← hnow1] at HBg
  have I := Lib.hid (pkt_info hp A n c)
  have OC := Lib.hid (pkC.pkC hp A n c)
  have HP := Lib.hid hp
  have HX := Lib.hid hx
  have HL := Lib.hid hx.len
  have HN7 := Lib.hid hn
  have HSX := Lib.hid hsx
  have KZ : (zeroValue 28).run Try.prog (w.alloc (.cells (pktV p A n c) 28)) = .ok (.agg (pktV zPkt none 0 0)) (w.alloc (.cells (pktV p A n c) 28)) := zeroPktK _
  have MY := Lib.hid (fun w' => cmay_fg p A n c xs w' hp hx.len (by omega))
  have WH := Lib.hid (fun w' => cwhole_fg p A n c xs w' hp)
  have XI := Lib.hid (pkt_info zPkt_okM none 0 0)
  have XO := Lib.hid (pkt_one zPkt none 0 0)
  clear h hn0 hnw hp hx hsx hn hnow1
  generalize mayP (p, xs) = my at *
  generalize wholeP (p, xs) = wh at *
  subst hmy hwh
  have q0 : ((n : Int) == 0) = false := beq_eq_false_iff_ne.2 (by omega)
  have HBG := Lib.hid HBg
  have HAD := Lib.hid HAd
  have HAL := Lib.hid HAl
  have HDR := Lib.hid HDr
  have HWHh := Lib.hid HWh
  have HR := Lib.hid hr
  clear hz HBg HAd HAl HDr HWh hr
  go_enter Try.func12, Try.ntmps12
  go_upto_region 1 with fail
  rw [← hW]
  rw [← hg5]
  clear hW hg5 KZ
  go_upto_region 4 with (first
    | (go_at_call 27; refine MD.out.mono ?_; rintro e w2 ⟨rfl, hw⟩; obtain rfl := hw.symm)
    | (go_at_call 28; refine TL.out.mono ?_; rintro e Wt ⟨rfl, hT, hB⟩
       have T2 := Lib.hid hT
       have B2 := Lib.hid hB
       clear hT hB))
  have T5N := Lib.hid (show g5 ≠ t ∧ g5 + 1 ≠ t by have := NS.out t TW.out.st; omega)
  have R5t := Lib.hid (show Wt.heap[g5]? = some (.cells (pktV p A n c) 28 (0, 0)) from (B2.out.block _ (Array.getElem?_eq_some_iff.1 R5.out).1 T5N.out.1).trans R5.out)
  have R6t := Lib.hid (show Wt.heap[g5 + 1]? = some (.cells (pktV zPkt none 0 0) 28 (0, 0)) from (B2.out.block _ (Array.getElem?_eq_some_iff.1 R6.out).1 T5N.out.2).trans R6.out)
  have FT := Lib.hid (show Fs S w Wt from (Fs.below HB.out).trans (fs_but B2.out TW.out.st))
  have SZT := Lib.hid (show g5 + 2 ≤ Wt.heap.size by have := (Array.getElem?_eq_some_iff.1 R6t.out).1; omega)
  have KR := Lib.hid (fun w' (h : Gr Wt w') => h.row R5t.out)
  have KR6 := Lib.hid (fun w' (h : Gr Wt w') => h.row R6t.out)
  have KLD := Lib.hid (fun w' (h : Gr Wt w') => pkC.PkC.cell (KR.out w' h) OC.out.load)
  have HXt := Lib.hid (show Nums .u8 Wt Wt.heap.size A n xs by
    refine ⟨HX.out.len, fun h0 => ?_⟩
    obtain ⟨b, o, e, hb, hc⟩ := HX.out.at_ h0
    refine ⟨b, o, e, Nat.lt_of_lt_of_le hb FT.out.size, fun i hi => ?_⟩
    have hbs : ¬ S b := fun hs => HSX.out h0 b hs o e
    exact (World.cell?_of_block (w := w) (w' := Wt) (FT.out.block b hb hbs)).trans (hc i hi))
  have GG := Lib.hid (show Gr Wt Wt from Below.refl _ _)
  clear MD TL TW B2 R5 R6 R5t R6t
  go_upto_region 6 with (first
    | go_skip
    | (with_reducible refine atC.at_load 28 5 ?_; refine wpList_load_rowG (by kernel_rfl) 28 (.tmp 5) rfl g5 (by kernel_rfl) _ _ _ _ (KR.out _ GG.out) Try.underlying28 rfl I.out ?_)
    | (go_at_call 21; refine (MY.out Wt).mono ?_; rintro e Wa ⟨rfl, hb⟩
       have Ga := Lib.hid (show Gr Wt Wa from hb)
       clear hb)
    | (with_reducible refine atC.at_load 28 5 ?_; refine wpList_load_rowG (by kernel_rfl) 28 (.tmp 5) rfl g5 (by kernel_rfl) _ _ _ _ (KR.out _ Ga.out) Try.underlying28 rfl I.out ?_)
    | (go_at_call 22; refine (WH.out Wa).mono ?_; rintro e Wb ⟨rfl, hb⟩
       have Gb := Lib.hid (show Gr Wt Wb from Ga.out.trans (hb.mono Ga.out.size))
       have klb := KLD.out Wb Gb.out
       clear hb))
  clear klb q0
  go_upto_region 8 with (first
    | (with_reducible refine atC.at_load 28 5 ?_; refine wpList_load_rowG (by kernel_rfl) 28 (.tmp 5) rfl g5 (by kernel_rfl) _ _ _ _ (KR.out _ Gb.out) Try.underlying28 rfl I.out ?_)
    | (go_at_call 22; refine (WH.out Wb).mono ?_; rintro e Wc ⟨rfl, hb⟩
       have Gc := Lib.hid (show Gr Wt Wc from Gb.out.trans (hb.mono Gb.out.size))
       have klc := KLD.out Wc Gc.out
       clear hb))
  have CS := Lib.hid (show ∀ j v, (adrC p.s p.a)[j]? = some v → Wc.cell? ⟨g5, 0 + j, none⟩ = some v from fun j v hv => pkC.PkC.cell (KR.out Wc Gc.out) (OC.out.src j v hv))
  have CD := Lib.hid (show ∀ j v, (adrC p.t p.b)[j]? = some v → Wc.cell? ⟨g5, 17 + j, none⟩ = some v from fun j v hv => pkC.PkC.cell (KR.out Wc Gc.out) (OC.out.dst j v hv))
  have ki : Wc.cell? ⟨g5, 36, none⟩ = some (.int .u32 p.id) := pkC.PkC.cell (KR.out Wc Gc.out) OC.out.id
  have kp : Wc.cell? ⟨g5, 34, none⟩ = some (.int .u8 p.proto) := pkC.PkC.cell (KR.out Wc Gc.out) OC.out.proto
  have IS := Lib.hid (adr_infoB (s := p.s) HP.out.la)
  have ID := Lib.hid (adr_infoB (s := p.t) HP.out.lb)
  have NB := Lib.hid (nm_built HP.out)
  have INm := Lib.hid (nm_infoV (nm_ok HP.out))
  have SNm := Lib.hid (show (nmV zNm).size = (nmV (nmOf p)).size by rw [nmV_size zNm_ok, nmV_size (nm_ok HP.out)])
  have ONm := Lib.hid (show (nmV (nmOf p)).all (·.oneCell') = true by unfold nmV; rw [List.all_toArray]; exact List.all_eq_true.2 (nm_one (nmOf p)))
  generalize nmV (nmOf p) = NV at *
  generalize adrC p.s p.a = LS at *
  generalize adrC p.t p.b = LD at *
  generalize p.id = idv at *
  generalize p.proto = prv at *
  have hzn := zeroNm
  clear klc
  go_upto_region 9 with (first
    | (refine partC.wpList_load_part rfl 24 (.tmp 43) rfl g5 0 rfl LS _ CS.out Try.underlying24 rfl IS.out ?_)
    | (refine partC.wpList_load_part rfl 24 (.tmp 45) rfl g5 17 rfl LD _ CD.out Try.underlying24 rfl ID.out ?_)
    | (with_reducible refine at_buildK 72 ?_; refine wpList_runG (by kernel_rfl) _ (built_runK (T := 72) (L := [(0, .agg LS.toArray), (1, .agg LD.toArray), (2, .int .u32 idv), (3, .int .u8 prv)]) rfl rfl NB.out) ?_)
    | (refine wpList_store_row rfl 72 (.tmp 9) (.tmp 51) rfl Wc.heap.size NV rfl rfl _ _ (heap_alloc_new _ _) INm.out SNm.out ONm.out ?_; rw [World.setRow_alloc_new]))
  clear hzn ki kp CS CD
  obtain ⟨g9, hg9⟩ : ∃ g, g = Wc.heap.size := ⟨_, rfl⟩
  obtain ⟨W8, hW8⟩ : ∃ W8, W8 = Wc.alloc (.cells NV 72) := ⟨_, rfl⟩
  have G8 := Lib.hid (show Gr Wt W8 by rw [hW8]; exact Gc.out.trans ((alloc_below _ _).mono Gc.out.size))
  have R98 := Lib.hid (show W8.heap[g9]? = some (.cells NV 72 (0, 0)) by rw [hW8, hg9]; exact heap_alloc_new _ _)
  have T8 := Lib.hid (T2.out.below (show Below Wt.heap.size Wt W8 from G8.out))
  have F8 := Lib.hid (show Fs S w W8 from FT.out.trans (Fs.below G8.out))
  have S8 := Lib.hid (show g5 + 2 ≤ W8.heap.size by have := SZT.out; have := G8.out.size; omega)
  have Z5 := Lib.hid (show ¬ Zf S W8 g5 ∧ ¬ Zf S W8 (g5 + 1) ∧ ¬ Zf S W8 g9 by
    refine ⟨?_, ?_, ?_⟩
    · rintro (h | h)
      · have := NS.out _ h; omega
      · have := S8.out; omega
    · rintro (h | h)
      · have := NS.out _ h; omega
      · have := S8.out; omega
    · rintro (h | h)
      · have := NS.out _ h; have := SZT.out; have := Gc.out.size; omega
      · have := (Array.getElem?_eq_some_iff.1 R98.out).1; omega)
  have K5 := Lib.hid (fun w' (h : Fs (Zf S W8) W8 w') => (show w'.heap[g5]? = some (.cells (pktV p A n c) 28 (0, 0)) from h.row (KR.out W8 G8.out) Z5.out.1))
  have K6 := Lib.hid (fun w' (h : Fs (Zf S W8) W8 w') => (show w'.heap[g5 + 1]? = some (.cells (pktV zPkt none 0 0) 28 (0, 0)) from h.row (KR6.out W8 G8.out) Z5.out.2.1))
  have K9 := Lib.hid (fun w' (h : Fs (Zf S W8) W8 w') => (show w'.heap[g9]? = some (.cells NV 72 (0, 0)) from h.row R98.out Z5.out.2.2))
  have KX := Lib.hid (fun w' (h : Fs (Zf S W8) W8 w') => (show Nums .u8 w' w'.heap.size A n xs by
    have h8 := (HXt.out.below G8.out).more G8.out.size
    refine ⟨h8.len, fun h0 => ?_⟩
    obtain ⟨b, o, e, hb, hc⟩ := h8.at_ h0
    obtain ⟨b', o', e', hb', -⟩ := HXt.out.at_ h0
    have hbs : ¬ Zf S W8 b := by
      rintro (h | h)
      · exact HSX.out h0 b h o e
      · rw [e] at e'; injection e' with e'; injection e' with e' _ _; subst e'; have := G8.out.size; omega
    refine ⟨b, o, e, Nat.lt_of_lt_of_le hb h.size, fun i hi => ?_⟩
    exact (World.cell?_of_block (w := W8) (w' := w') (h.block b hb hbs)).trans (hc i hi)))
  rw [← hW8, ← hg9]
  have BGN := Lib.hid (HBG.out W8 T8.out F8.out.size)
  clear hW8 hg9 HBG GG KLD MY WH
  unfold ptr at HAL HWHh
  unfold ptr at BGN HAD
  go_upto_region 10 with (first
    | (with_reducible refine atC.at_load 72 9 ?_; refine wpList_load_rowG (by kernel_rfl) 72 (.tmp 9) rfl g9 (by kernel_rfl) _ _ _ _ (R98.out) Try.underlying72 rfl INm.out ?_)
    | (go_at_call 30; refine BGN.out.mono ?_; rintro e w2 ⟨q, rfl, hm, hf⟩
       have H1 := Lib.hid hm
       have F2 := Lib.hid hf
       clear hm hf))
  have ADD := Lib.hid (HAD.out W8 q w2 H1.out (KX.out w2 F2.out))
  go_upto_region 11 with (first
    | (with_reducible refine atC.at_load 28 5 ?_; refine wpList_load_rowG (by kernel_rfl) 28 (.tmp 5) rfl g5 (by kernel_rfl) _ _ _ _ (K5.out _ F2.out) Try.underlying28 rfl I.out ?_)
    | (go_at_call 31; refine ADD.out.mono ?_; rintro e w3 ⟨rfl, hm, hf⟩
       have H2 := Lib.hid hm
       have F3 := Lib.hid (F2.out.trans hf)
       clear hm hf))
  have ALL := Lib.hid (HAL.out W8 q w3 H2.out)
  go_upto_region 13 with (first
    | go_skip
    | (go_at_call 32; refine ALL.out.mono ?_; rintro e w4 ⟨rfl, hm, hf⟩
       have H3 := Lib.hid hm
       have F4 := Lib.hid (F3.out.trans hf)
       clear hm hf))
  go_upto_region 16 with (first
    | (with_reducible refine atC.at_load 72 9 ?_; refine wpList_load_rowG (by kernel_rfl) 72 (.tmp 9) rfl g9 (by kernel_rfl) _ _ _ _ (K9.out _ F4.out) Try.underlying72 rfl INm.out ?_)
    | (go_at_call 33; refine (HDR.out W8 q w4 H3.out).mono ?_; rintro e w5 ⟨rfl, hm, hf⟩
       have H4 := Lib.hid hm
       have F5 := Lib.hid (F4.out.trans hf)
       clear hm hf))
  go_wp2_with (first
    | (go_at_call 34; refine (HWHh.out W8 q w5 H4.out).mono ?_; rintro e w6 ⟨A6, k6, c6, rfl, hm, hf⟩
       have H5 := Lib.hid hm
       have F6 := Lib.hid (F5.out.trans hf)
       have IJ := Lib.hid (pkt_info HR.out A6 k6 c6)
       have SJ := Lib.hid (show (pktV zPkt none 0 0).size = (pktV r A6 k6 c6).size by rw [(pkC.pkC HR.out A6 k6 c6).size]; rfl)
       have NJ := Lib.hid (pkt_one r A6 k6 c6)
       clear hm hf)
    | (refine wpList_store_row rfl 28 (.tmp 6) (.tmp 74) rfl (g5 + 1) (pktV r A6 k6 c6) rfl rfl _ _ (K6.out _ F6.out) IJ.out SJ.out NJ.out ?_))
  refine bodyPost_ret (v := .tuple #[.agg (pktV r A6 k6 c6), .bool true, .int .i64 0]) (results_cell_tmp2 Try.results12 _ _ (g5 + 1) _ _ _ _ _ _ (by rfl) (setRow_heap _ _ _ _ _ _ (K6.out _ F6.out)) Try.underlying28 rfl IJ.out (by rfl) (by rfl)) rfl ?_
  exact ⟨W8, w6, A6, k6, c6, rfl, by rw [← HG5.out]; exact S8.out, H5.out, by rw [← HG5.out], F6.out, F8.out⟩
end Go.Proofs.Ytcnnpfjommiafaa.fgC

/-
  Pieces in the order of their offs make the packet that pieces in any order make.
-/
namespace Go.Proofs.Ytcnnpfjommiafaa.fgC
open Go.Proofs.Ytcnnpfjommiafaa.pkC (Pkt)
set_option linter.unusedVariables false
/-- a piece that a table takes -/
structure GP (x : Pc) : Prop where
  may : mayP x = true
  nw : wholeP x = false
  pos : 0 < x.2.length
theorem may_facts {x : Pc} (h : mayP x = true) : 0 ≤ x.1.off ∧ endP x ≤ 65535 ∧ (x.1.whole = true → x.1.more = false ∧ x.1.off = 0) := by
  unfold mayP at h
  unfold endP
  split at h
  · unfold sxC.mayS at h
    simp only [Bool.and_eq_true, Bool.or_eq_true, decide_eq_true_eq, Bool.not_eq_true'] at h
    obtain ⟨h1, h2, h3, h4, h5, h6, h7, h8⟩ := h
    refine ⟨h4, by omega, fun hw => ?_⟩
    rw [hw] at h8
    simp at h8
    exact ⟨h8.1, h8.2.1⟩
  · unfold pkC.mayB at h
    simp only [Bool.and_eq_true, Bool.or_eq_true, decide_eq_true_eq, Bool.not_eq_true'] at h
    obtain ⟨⟨⟨⟨⟨⟨h0, h4⟩, h5⟩, h6⟩, h7⟩, h8⟩, h9⟩ := h
    refine ⟨h4, by omega, fun hw => ?_⟩
    rw [hw] at h9
    simpa using h9
theorem GP.off0 {x : Pc} (h : GP x) : 0 ≤ x.1.off := (may_facts h.may).1
theorem GP.end9 {x : Pc} (h : GP x) : endP x ≤ 65535 := (may_facts h.may).2.1
theorem GP.whole {x : Pc} (h : GP x) : x.1.whole = false := by
  cases hw : x.1.whole
  · rfl
  · obtain ⟨h1, h2⟩ := (may_facts h.may).2.2 hw
    have := h.nw
    unfold wholeP at this
    rw [h1, h2] at this
    simp at this
theorem bad_symm (a b : Pc) : badP a b = badP b a := by
  unfold badP
  generalize decide (a.1.off < endP b) = d1
  generalize decide (b.1.off < endP a) = d2
  generalize decide (endP b > endP a) = d3
  generalize decide (endP a > endP b) = d4
  cases a.1.more <;> cases b.1.more <;> cases d1 <;> cases d2 <;> cases d3 <;> cases d4 <;> rfl
theorem clash_bad {a b : Pc} (ha : 0 < a.2.length) (hb : 0 < b.2.length) : clashP a b = badP b a := by
  have h1 : a.1.off < endP a := by unfold endP; omega
  have h2 : b.1.off < endP b := by unfold endP; omega
  unfold clashP badP
  generalize endP a = ea at *
  generalize endP b = eb at *
  generalize a.1.off = oa at *
  generalize b.1.off = ob at *
  rw [Bool.eq_iff_iff]
  cases a.1.more <;> cases b.1.more <;> simp <;> omega
theorem order2 {a b : Pc} (ha : 0 < a.2.length) (hb : 0 < b.2.length) (hs : a.1.off ≤ b.1.off) (hn : badP b a = false) : endP a ≤ b.1.off ∧ a.1.more = true := by
  have h1 : a.1.off < endP a := by unfold endP; omega
  have h2 : b.1.off < endP b := by unfold endP; omega
  unfold badP at hn
  generalize endP a = ea at *
  generalize endP b = eb at *
  generalize a.1.off = oa at *
  generalize b.1.off = ob at *
  have h3 : ea ≤ ob := by
    cases a.1.more <;> cases b.1.more <;> simp at hn <;> omega
  refine ⟨h3, ?_⟩
  cases hm : a.1.more
  · rw [hm] at hn
    cases b.1.more <;> simp at hn <;> omega
  · rfl
theorem cont_append : ∀ (l m : List Pc) (a : Int), contP a (l ++ m) = (contP a l && contP (nxtP a l) m)
  | [], m, a => by simp [contP, nxtP]
  | x :: r, m, a => by rw [List.cons_append, contP, contP, nxtP, cont_append r m, Bool.and_assoc]
theorem allP_snoc (l : List Pc) (e : Pc) : allP (l ++ [e]) = ((contP 0 l && decide (e.1.off = nxtP 0 l)) && !e.1.more) := by
  unfold allP
  rw [cont_snoc, List.getLast?_concat]
theorem find_none {l : List Pc} {k : Int} (h : ∀ x ∈ l, x.1.off ≠ k) : l.find? (fun q => decide (q.1.off = k)) = none := by
  rw [List.find?_eq_none]
  intro x hx
  simpa using h x hx
theorem join_sorted (s : List Pc) (hp : s.Pairwise fun a b => endP a ≤ b.1.off ∧ a.1.more = true) (hg : ∀ x ∈ s, GP x) :
    ∀ (suf pre : List Pc) (load : List Int) (first : Pc), s = pre ++ suf → contP 0 pre = true → nxtP 0 pre = (load.length : Int) → (∀ x ∈ pre, endP x ≤ (load.length : Int)) → (∀ x ∈ suf, (load.length : Int) ≤ x.1.off) → (∀ e, pre.getLast? = some e → e.1.more = true) → (pre = [] ∨ s.head? = some first) →
    joinF s suf.length load first = if allP s = true then some (outP (s.headD zPc) (load ++ suf.flatMap (·.2))) else none := by
  intro suf
  induction suf with
  | nil =>
    intro pre load first hs hc hn he hf hm h0
    rw [List.append_nil] at hs
    have : allP s = false := by
      unfold allP
      rw [hs]
      cases h9 : pre.getLast? with
      | none => simp
      | some e => simp [hm e h9]
    rw [this]
    rfl
  | cons e r ih =>
    intro pre load first hs hc hn he hf hm h0
    have hge := hg e (by rw [hs]; simp)
    have hpre : ∀ x ∈ pre, x.1.off < endP x := fun x hx => by
      have := (hg x (by rw [hs]; simp [hx])).pos
      unfold endP; omega
    rw [List.length_cons]
    unfold joinF
    have hpw := hp
    rw [hs] at hpw
    obtain ⟨-, hp2, hp3⟩ := List.pairwise_append.1 hpw
    obtain ⟨hp4, hp5⟩ := List.pairwise_cons.1 hp2
    have heq : endP e = e.1.off + (e.2.length : Int) := rfl
    have hel := hge.pos
    by_cases ho : e.1.off = (load.length : Int)
    · have hfind : s.find? (fun q => decide (q.1.off = (load.length : Int))) = some e := by
        rw [hs, List.find?_append, find_none fun x hx => by have := hpre x hx; have := he x hx; have h9 := hp3 x hx e (by simp); omega]
        simp [ho]
      rw [hfind]
      simp only
      have hfirst : (if e.1.off = 0 then e else first) = s.headD zPc := by
        cases pre with
        | nil =>
          have : e.1.off = 0 := by rw [ho, ← hn]; rfl
          rw [if_pos this, hs]; rfl
        | cons y ys =>
          have h1 := hpre y (by simp)
          have h2 := (hg y (by rw [hs]; simp)).off0
          have h3 := (hp3 y (by simp) e (by simp)).1
          rw [if_neg (by omega)]
          rcases h0 with h0 | h0
          · cases h0
          · rw [hs] at h0 ⊢
            simp at h0 ⊢
            exact h0.symm
      rw [hfirst]
      by_cases hmo : e.1.more = true
      · rw [if_pos hmo]
        have := ih (pre ++ [e]) (load ++ e.2) (s.headD zPc) (by rw [hs]; simp) (by rw [cont_snoc, hc, hn]; simp [ho]) (by rw [nxt_snoc, List.length_append]; omega) (fun x hx => by
          rw [List.length_append]
          rcases List.mem_append.1 hx with hx | hx
          · have := he x hx; omega
          · obtain rfl := List.mem_singleton.1 hx; omega) (fun x hx => by
          have := (hp4 x hx).1
          rw [List.length_append]; omega) (fun x hx => by rw [List.getLast?_concat] at hx; injection hx with hx; exact hx ▸ hmo) (.inr (by cases hsc : s with
            | nil => rw [hsc] at hs; simp at hs
            | cons y ys => rfl))
        rw [this, List.flatMap_cons, List.append_assoc]
      · rw [if_neg hmo]
        have hr : r = [] := by
          cases r with
          | nil => rfl
          | cons y ys => exact absurd (hp4 y (by simp)).2 hmo
        subst hr
        have hal : allP s = true := by
          rw [hs, allP_snoc, hc, hn]
          simp [ho, hmo]
        rw [if_pos hal]
        simp
    · have hlt : (load.length : Int) < e.1.off := by have := hf e (by simp); omega
      have hfind : s.find? (fun q => decide (q.1.off = (load.length : Int))) = none := by
        refine find_none fun x hx => ?_
        rw [hs] at hx
        rcases List.mem_append.1 hx with hx | hx
        · have := hpre x hx; have := he x hx; omega
        · rcases List.mem_cons.1 hx with rfl | hx
          · omega
          · have := (hp4 x hx).1; omega
      have hal : allP s = false := by
        unfold allP
        rw [hs, cont_append, hc, hn]
        simp [contP, ho]
      rw [hfind, hal]
      exact stuck s load first hfind r.length
theorem find_perm {l s : List Pc} (hp : l.Perm s) (hd : ∀ x ∈ s, ∀ y ∈ s, x.1.off = y.1.off → x = y) (k : Int) : l.find? (fun q => decide (q.1.off = k)) = s.find? (fun q => decide (q.1.off = k)) := by
  cases h1 : l.find? (fun q => decide (q.1.off = k)) with
  | none =>
    symm
    refine find_none fun x hx => ?_
    have := List.find?_eq_none.1 h1 x (hp.mem_iff.2 hx)
    simpa using this
  | some x =>
    have hx := hp.mem_iff.1 (List.mem_of_find?_eq_some h1)
    have ox : x.1.off = k := by have := List.find?_some h1; simpa using this
    cases h2 : s.find? (fun q => decide (q.1.off = k)) with
    | none => have := List.find?_eq_none.1 h2 x hx; simp [ox] at this
    | some y =>
      have hy := List.mem_of_find?_eq_some h2
      have oy : y.1.off = k := by have := List.find?_some h2; simpa using this
      rw [hd x hx y hy (by rw [ox, oy])]
theorem joinF_perm {l s : List Pc} (hp : l.Perm s) (hd : ∀ x ∈ s, ∀ y ∈ s, x.1.off = y.1.off → x = y) : ∀ (f : Nat) (load : List Int) (first : Pc), joinF l f load first = joinF s f load first
  | 0, _, _ => rfl
  | f + 1, load, first => by
    unfold joinF
    rw [find_perm hp hd]
    cases s.find? (fun q => decide (q.1.off = (load.length : Int))) with
    | none => exact joinF_perm hp hd f _ _
    | some q =>
      simp only
      split
      · exact joinF_perm hp hd f _ _
      · rfl
theorem joined_of {l s : List Pc} (hp : l.Perm s) (ho : s.Pairwise fun a b => endP a ≤ b.1.off ∧ a.1.more = true) (hg : ∀ x ∈ s, GP x) :
    joinedP l = if allP s = true then some (outP (s.headD zPc) (s.flatMap (·.2))) else none := by
  have hd : ∀ x ∈ s, ∀ y ∈ s, x.1.off = y.1.off → x = y := by
    intro x hx y hy hxy
    by_cases e : x = y
    · exact e
    · have h9 : ∀ a b : Pc, (a ∈ s ∧ b ∈ s) → endP a ≤ b.1.off → a.1.off < b.1.off := fun a b h h2 => by
        have := (hg a h.1).pos
        unfold endP at h2; omega
      obtain ⟨i, hi, rfl⟩ := List.mem_iff_getElem.1 hx
      obtain ⟨j, hj, rfl⟩ := List.mem_iff_getElem.1 hy
      have hij : i ≠ j := fun h => e (by subst h; rfl)
      rcases Nat.lt_or_gt_of_ne hij with h | h
      · have := h9 _ _ ⟨hx, hy⟩ (List.pairwise_iff_getElem.1 ho i j hi hj h).1
        omega
      · have := h9 _ _ ⟨hy, hx⟩ (List.pairwise_iff_getElem.1 ho j i hj hi h).1
        omega
  unfold joinedP
  rw [joinF_perm hp hd, hp.length_eq]
  have := join_sorted s ho hg s [] [] zPc rfl rfl rfl (by simp) (fun x hx => by have := (hg x hx).off0; simpa using this) (by simp) (.inl rfl)
  rw [List.nil_append] at this
  exact this
/-- pieces that lie sorted, none of them bad -/
theorem sorted_order {s : List Pc} (hs : s.Pairwise fun a b => a.1.off ≤ b.1.off) (hb : s.Pairwise fun a b => badP b a = false) (hg : ∀ x ∈ s, GP x) : s.Pairwise fun a b => endP a ≤ b.1.off ∧ a.1.more = true := by
  refine List.Pairwise.imp_of_mem ?_ (List.Pairwise.and hs hb)
  rintro a b ha hb2 ⟨h1, h2⟩
  exact order2 (hg a ha).pos (hg b hb2).pos h1 h2
theorem cont_sum : ∀ (l : List Pc) (a : Int), contP a l = true → nxtP a l = a + ((l.flatMap (·.2)).length : Int)
  | [], a, _ => by simp [nxtP]
  | x :: r, a, h => by
    rw [contP] at h
    simp only [Bool.and_eq_true, decide_eq_true_eq] at h
    rw [nxtP, cont_sum r _ h.2, List.flatMap_cons, List.length_append]
    unfold endP
    omega
end Go.Proofs.Ytcnnpfjommiafaa.fgC
