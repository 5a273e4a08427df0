/-
  19 texts of a proof, joined.
-/
import Derived.Test.YtbhcpbihbecphaaMg14
import Derived.Test.YtbhcpbihbecphaaMg12
import Derived.Test.YtbhcpbihbecphaaMg13
import Derived.Test.YtbhcpbihbecphaaMg9
import Derived.Test.YtbhcpbihbecphaaMg3
import Derived.Test.YtbhcpbihbecphaaMg1
import Derived.ProofKit
import Derived.Outline
import Derived.Deep.QuietTactic
import Derived.BigQuiet
import Derived.Lib.Hide
import Derived.IntWalk
import Derived.Laws.BitsAllLaws
import Derived.Test.YtbhcpbihbecphaaMg10
import Derived.Deep.Matrix
import Derived.Lib.AppendZeros
import Derived.StillTailTactics
import Derived.Deep.RegionWith
import Derived.Laws.Rows
import Derived.BigRegion
import Derived.Deep.CutRange
import Derived.Test.YtbhcpbihbecphaaMg6
import Derived.Test.YtbhcpbihbecphaaMg2
import Derived.Laws.StructEq
import Derived.ChangeKeysEq
import Derived.Test.YtbhcpbihbecphaaMg4
import Derived.Great.BuildSlice
import Derived.StillTactics
import Derived.Deep.LoopGhost
import Derived.Deep.WholeRow
import Derived.RegionTactic

/-
  Parse of some bytes: the program's.
-/
namespace Go.Proofs.Ytbhcpbihbecphaa.sxC
open Go.ChangeShapes Go.WideShapes Go.ChangeAt Go.RowKit
open Go.Proofs.Ytbhcpbihbecphaa.memC Go.Proofs.Ytbhcpbihbecphaa.genC Go.Proofs.Ytbhcpbihbecphaa.butC Go.Proofs.Ytbhcpbihbecphaa.freeC Go.Proofs.Ytbhcpbihbecphaa.adC Go.Proofs.Ytbhcpbihbecphaa.pkC
open Go.Proofs.Ytbhcpbihbecphaa.octC (Fr Rd RdD stopped)
set_option linter.unusedVariables false
/-- a packet that was read, and an error -/
def PsR (w : World) (bs : List Int) (e : Ending) (w' : World) : Prop :=
  ∃ A n c, e = .returned (.tuple #[.agg (pktV (psP bs) A n c), .int .i64 (psE bs)]) ∧ Nums .u8 w' w'.heap.size A n (psX bs) ∧ Below w.heap.size w w'
theorem ent_clo (cap : Array Value) (w : World) : (callFunc 31 cap).run Try.prog w = .ok (.enter 31 cap) w := by go_simp
set_option maxRecDepth 100000 in
theorem clo_stop (g q B bp bt : Nat) (bs : List Int) (w : World) (hg : RdB w g q 0) (h : RdD w q B bs) (hm : bs.length ≤ 9000) (hy : ∀ x ∈ bs, Byte x) (hn : g ≠ q) (hB : B ≤ g) (h4 : psE bs = 4) :
    Calls Try.prog 31 #[.pointer (some ⟨g, 0, none⟩), .pointer (some ⟨bp, 0, none⟩), .pointer (some ⟨bt, 0, none⟩)] w fun e w' => e = stopped ∧ Fr (fun k => k = q ∨ k = g) w w' ∧ True := by
  have RD := Lib.hid ((packet_any g q B bs w hg h hm hy hn hB).mono fun e w' h => (show e = stopped ∧ Fr (fun k => k = q ∨ k = g) w w' by
    rcases h with h | h
    · exact h.2
    · exact absurd h4 h.1))
  clear hg h hm hy hn hB h4
  go_enter Try.func31, Try.ntmps31
  go_wp2_with (first
    | (go_at_call 32; (refine RD.out.mono ?_); rintro e v2 ⟨he, F⟩; rw [octC.stopped_eq] at he; subst he))
  exact ⟨rfl, rfl, F, trivial⟩
/-- what a reading that ends leaves -/
def CloQ (w : World) (bp bt : Nat) (bs : List Int) (w' : World) : Prop :=
  ∃ A n c, w'.heap[bp]? = some (.cells (pktV (psP bs) A n c) 28 (0, 0)) ∧ w'.cell? ⟨bt, 0, none⟩ = some (.int .i64 (psE bs)) ∧ Own .u8 5 w' w.heap.size (.slice A n c) (psX bs)
set_option maxRecDepth 100000 in
set_option maxHeartbeats 1000000 in
theorem clo_end (g q B bp bt : Nat) (bs : List Int) (w : World) (hg : RdB w g q 0) (h : RdD w q B bs) (hm : bs.length ≤ 9000) (hy : ∀ x ∈ bs, Byte x) (hn : g ≠ q) (hB : B ≤ g) (h4 : psE bs ≠ 4)
    (hp : w.heap[bp]? = some (.cells (pktV zPkt none 0 0) 28 (0, 0))) (ht : w.cell? ⟨bt, 0, none⟩ = some (.int .i64 0)) (hz : w.frozen? ⟨bt, 0, none⟩ = false) (hne : bp ≠ bt) (n1 : bp ≠ q) (n2 : bp ≠ g) (n3 : bt ≠ q) (n4 : bt ≠ g) :
    Calls Try.prog 31 #[.pointer (some ⟨g, 0, none⟩), .pointer (some ⟨bp, 0, none⟩), .pointer (some ⟨bt, 0, none⟩)] w fun e w' => e = .returned (.tuple #[]) ∧ Fr (fun k => k = q ∨ k = g ∨ k = bp ∨ k = bt) w w' ∧ CloQ w bp bt bs w' := by
  have RD := Lib.hid ((packet_any g q B bs w hg h hm hy hn hB).mono fun e w' h => (show ∃ A n c, e = .returned (.tuple #[.agg (pktV (psP bs) A n c), .int .i64 (psE bs)]) ∧ Own .u8 5 w' w.heap.size (.slice A n c) (psX bs) ∧ Fr (fun k => k = q ∨ k = g) w w' by
    rcases h with h | h
    · exact absurd h.1 h4
    · exact h.2))
  have lp := Lib.hid (lt_of_row hp)
  have lt := Lib.hid (show bt < w.heap.size from World.block_lt_of_cell? _ _ ht)
  have PO := Lib.hid (psP_ok hy)
  have SZ := Lib.hid (fun A n c => (pkC zPkt_ok none 0 0).size.trans (pkC PO.out A n c).size.symm)
  have HP0 := Lib.hid hp
  have HT := Lib.hid ht
  have HZ := Lib.hid hz
  have NE := Lib.hid hne
  have NA := Lib.hid (show ¬ (bp = q ∨ bp = g) by omega)
  have NB := Lib.hid (show ¬ (bt = q ∨ bt = g) by omega)
  unfold CloQ
  generalize pktV zPkt none 0 0 = Z at *
  clear hg h hm hy hn hB h4 hp ht hz hne n1 n2 n3 n4
  go_enter Try.func31, Try.ntmps31
  go_wp2_with (first
    | (go_at_call 32; (refine RD.out.mono ?_); rintro e v2 ⟨A2, n2, c2, rfl, O, F⟩
       have F0 := Lib.hid F
       have UP := Lib.hid (pkC PO.out A2 n2 c2).info
       have SP := Lib.hid (SZ.out A2 n2 c2)
       have OP := Lib.hid (pkt_one (psP bs) A2 n2 c2)
       generalize hC : pktV (psP bs) A2 n2 c2 = C at *
       have EC := Lib.hid hC
       clear hC
       have RW := Lib.hid (show v2.heap[bp]? = some (.cells Z 28 (0, 0)) from F.row HP0.out NA.out)
       have e3 : (v2.setRow bp C).heap[bt]? = w.heap[bt]? := (setRow_other _ _ _ _ (fun e => NE.out e.symm)).trans (F.block bt lt.out NB.out)
       have t3 : (v2.setRow bp C).cell? ⟨bt, 0, none⟩ = some (.int .i64 0) := (World.cell?_of_block (w := w) e3).trans HT.out
       have z3 : (v2.setRow bp C).frozen? ⟨bt, 0, none⟩ = false := (World.frozen?_of_block (w := w) e3).trans HZ.out
       have OL := Lib.hid O
       clear O F e3)
    | (refine wpList_store_row rfl 28 (.tmp 1) (.tmp 5) rfl bp _ rfl rfl _ _ RW.out UP.out SP.out OP.out ?_))
  go_end0
  have FS : Fr (fun k => k = q ∨ k = g ∨ k = bp ∨ k = bt) w (v2.setRow bp C) := ⟨F0.out.os, F0.out.tape, F0.out.output, by simpa using F0.out.size, fun k hk hn => (setRow_other _ _ _ _ (fun e => hn (.inr (.inr (.inl e))))).trans (F0.out.block k hk (fun e => hn (by rcases e with e | e; exact .inl e; exact .inr (.inl e))))⟩
  refine ⟨rfl, FS.trans (octC.Fr.setCell _ (fun _ => .inr (.inr (.inr rfl))) _), A2, n2, c2, ?_, by go_simp, ?_⟩
  · rw [Below.heap_setCell _ _ _ _ (show bp ≠ bt from NE.out), EC.out]
    exact setRow_heap _ _ _ _ _ _ RW.out
  · refine OL.out.keep fun k h1 h2 => ?_
    have h3 := lp.out
    have h4 := lt.out
    rw [Below.heap_setCell _ _ _ _ (show k ≠ bt by omega)]
    exact setRow_other _ _ _ _ (by omega)
/-- what stands while Parse returns -/
structure PaG (w0 Wr : World) (r0 bp bt : Nat) (C : Array Value) (y : Int) (A : Option Addr) (n c : Nat) (X : List Int) (w : World) : Prop where
  bel : Below w0.heap.size Wr w
  pk : w.heap[bp]? = some (.cells C 28 (0, 0))
  told : w.cell? ⟨bt, 0, none⟩ = some (.int .i64 y)
  own : Own .u8 5 w (r0 + 1) (.slice A n c) X
theorem PaG.keep {w0 Wr : World} {r0 bp bt : Nat} {C : Array Value} {y : Int} {A : Option Addr} {n c : Nat} {X : List Int} {w w' : World} (h0 : w0.heap.size ≤ r0) (hw : r0 ≤ w.heap.size) (h1 : bp ≠ r0) (h2 : bt ≠ r0) (hd : Below w.heap.size w w' ∨ OnlyAt r0 w w') (h : PaG w0 Wr r0 bp bt C y A n c X w) : PaG w0 Wr r0 bp bt C y A n c X w' :=
  ⟨keep_below hd h0 (by omega) h.bel, keep_row hd h1 h.pk, (by
    rcases hd with hd | hd
    · exact (hd.cell (p := ⟨bt, 0, none⟩) (World.block_lt_of_cell? _ _ h.told)).trans h.told
    · exact (World.cell?_of_block (w := w) (hd.2 bt h2)).trans h.told), h.own.keep fun g g1 g2 => by
    rcases hd with hd | hd
    · exact hd.block g g2
    · exact hd.2 g (by omega)⟩
def paR (g0 : Nat) (Z T : Array Value) : Nat → (Nat → Value) → World → Prop
  | 0, _, w => w.heap[g0]? = some (.cells Z 28 (0, 0))
  | 1, _, w => w.heap[g0]? = some (.cells T 28 (0, 0))
  | _, _, _ => True
theorem paR.keep (g0 : Nat) (Z T : Array Value) (k : Nat) (us us' : Nat → Value) (w w' : World) (hb : Below w.heap.size w w') (hR : paR g0 Z T k us w) : paR g0 Z T k us' w' := by
  unfold paR at hR ⊢
  split at hR
  · show w'.heap[g0]? = _
    rw [hb.block _ (lt_of_row hR)]; exact hR
  · show w'.heap[g0]? = _
    rw [hb.block _ (lt_of_row hR)]; exact hR
  · trivial
def paV (r0 bp bt : Nat) (x y r : Int) (C : Array Value) : Nat → Value → World → Prop
  | 0, v, _ => v = .agg C
  | 1, v, _ => v = .int .i64 x
  | 2, v, _ => v = .int .i64 y
  | 3, v, w => ∃ g, v = .slice (some ⟨g, 0, none⟩) 2 2 ∧ g ≠ r0 ∧ w.heap[g]? = some (.cells #[.int .i64 x, .int .i64 y] 31 (0, 0))
  | 4, v, _ => v = .int .i64 r
  | 6, v, _ => v = .int .i64 r
  | _, _, _ => True
theorem paV.keep (r0 bp bt : Nat) (x y r : Int) (C : Array Value) (i : Nat) (v : Value) (w w' : World) (hd : Below w.heap.size w w' ∨ OnlyAt r0 w w') (h : paV r0 bp bt x y r C i v w) : paV r0 bp bt x y r C i v w' := by
  by_cases e3 : i = 3
  · subst e3
    obtain ⟨g, h1, h2, h3⟩ := h
    exact ⟨g, h1, h2, keep_row hd h2 h3⟩
  unfold paV at h ⊢
  split at h <;> first | exact h | exact absurd rfl (by assumption)
def paT : List (Option Nat) := [none, none, none, some 6, none, none, none, none, none, none, none, none, none, some 0, some 1, some 2, some 3, some 4]
/-- what Try leaves in Parse -/
def TryQ (w : World) (r0 bp bt : Nat) (bs : List Int) (x y : Int) (e : Ending) (w' : World) : Prop :=
  e = .returned (.int .i64 x) ∧ Below w.heap.size w w' ∧ w'.heap[r0]? = some (.cells (pktV zPkt none 0 0) 28 (0, 0)) ∧
    ∃ A n c, PaG w w' r0 bp bt (pktV (psP bs) A n c) y A n c (psX bs) w'
theorem try_any (w Wd : World) (r0 g q B bp bt : Nat) (bs : List Int) (hW : Below w.heap.size w Wd) (h0 : r0 = w.heap.size) (hg : RdB Wd g q 0) (h : RdD Wd q B bs) (hm : bs.length ≤ 9000) (hy : ∀ x ∈ bs, Byte x) (o1 : r0 < q) (o2 : q < g) (o3 : g < bp) (o4 : bp < bt)
    (rr : Wd.heap[r0]? = some (.cells (pktV zPkt none 0 0) 28 (0, 0))) (rp : Wd.heap[bp]? = some (.cells (pktV zPkt none 0 0) 28 (0, 0))) (rt : Wd.heap[bt]? = some (.cells #[.int .i64 0] 31 (0, 0))) :
    ∃ x y : Int, (if x = 0 then y else x) = psE bs ∧ Calls Try.prog 30 #[.func (.func 31) #[] #[.pointer (some ⟨g, 0, none⟩), .pointer (some ⟨bp, 0, none⟩), .pointer (some ⟨bt, 0, none⟩)]] Wd (TryQ w r0 bp bt bs x y) := by
  have hbt := lt_of_row rt
  have hBq := h.le
  obtain ⟨We, hWe⟩ : ∃ W, W = Wd.alloc (.cells #[.int .i64 0] 31) := ⟨_, rfl⟩
  have se : We.heap.size = Wd.heap.size + 1 := by rw [hWe, alloc_size]
  have Be : Below Wd.heap.size Wd We := by rw [hWe]; exact alloc_below _ _
  have ge : RdB We g q 0 := hg.fr (S := fun _ => False) (Fr.below Be) (fun e => e)
  have de : RdD We q B bs := h.below Be
  have rpe : We.heap[bp]? = some (.cells (pktV zPkt none 0 0) 28 (0, 0)) := by rw [Be.block _ (lt_of_row rp)]; exact rp
  have rte : We.heap[bt]? = some (.cells #[.int .i64 0] 31 (0, 0)) := by rw [Be.block _ hbt]; exact rt
  have ct : We.cell? ⟨bt, 0, none⟩ = some (.int .i64 0) := by rw [cell_of_row We bt 0 _ _ (0, 0) rte]; rfl
  have fz : We.frozen? ⟨bt, 0, none⟩ = false := frozen_of_row We bt 0 _ _ rte
  by_cases h4 : psE bs = 4
  · refine ⟨4, 0, by rw [h4]; rfl, ?_⟩
    refine (octC.try_halt 31 _ Wd (fun k => k = q ∨ k = g) (fun _ => True) (fun k hk => by rcases hk with rfl | rfl <;> omega) (ent_clo _) (fun _ _ _ _ => trivial) (by rw [← hWe]; exact clo_stop g q B bp bt bs We ge de hm hy (by omega) (by omega) h4)).mono ?_
    rintro e w' ⟨rfl, F, _⟩
    have e1 : psP bs = zPkt := by unfold psP; rw [if_neg (by rw [h4]; decide)]
    have e2 : psX bs = [] := by unfold psX; rw [if_neg (by rw [h4]; decide)]
    have rt2 : w'.heap[bt]? = some (.cells #[.int .i64 0] 31 (0, 0)) := F.row rt (by omega)
    refine ⟨rfl, ?_, F.row rr (by omega), none, 0, 0, ⟨Below.refl _ _, ?_, ?_, ?_⟩⟩
    · exact ⟨F.os.trans hW.os, F.tape.trans hW.tape, F.output.trans hW.output, Nat.le_trans hW.size F.size, fun k hk => (F.block k (Nat.lt_of_lt_of_le hk hW.size) (by omega)).trans (hW.block k hk)⟩
    · rw [e1]; exact F.row rp (by omega)
    · rw [cell_of_row w' bt 0 _ _ (0, 0) rt2]; rfl
    · rw [e2]; exact Own.nil _ _
  · refine ⟨0, psE bs, rfl, ?_⟩
    have hke : We.cell? ⟨Wd.heap.size, 0, none⟩ = some (.int .i64 0) := by rw [hWe, cell_of_row _ _ 0 _ _ (0, 0) (heap_alloc_new _ _)]; rfl
    have hkf : We.frozen? ⟨Wd.heap.size, 0, none⟩ = false := by rw [hWe]; go_simp
    have hCL := clo_end g q B bp bt bs We ge de hm hy (by omega) (by omega) h4 rpe ct fz (by omega) (by omega) (by omega) (by omega) (by omega)
    rw [hWe] at hCL
    refine (octC.try_ok 31 _ Wd _ (ent_clo _) hCL fun w' ⟨F, _⟩ => ?_).mono ?_
    · rw [← hWe] at F
      exact ⟨(F.cell (a := ⟨Wd.heap.size, 0, none⟩) (show Wd.heap.size < We.heap.size by omega) (show ¬ (Wd.heap.size = _ ∨ Wd.heap.size = _ ∨ Wd.heap.size = _ ∨ Wd.heap.size = _) by omega)).trans hke, (F.frozen (a := ⟨Wd.heap.size, 0, none⟩) (show Wd.heap.size < We.heap.size by omega) (show ¬ (Wd.heap.size = _ ∨ Wd.heap.size = _ ∨ Wd.heap.size = _ ∨ Wd.heap.size = _) by omega)).trans hkf⟩
    · rintro e w' ⟨rfl, w1, ⟨F, A, n, c, h1, h2, h3⟩, rfl⟩
      rw [← hWe] at F h3
      have hs : ∀ k, k ≠ Wd.heap.size → (w1.setCell ⟨Wd.heap.size, 0, none⟩ (.int .i64 0)).heap[k]? = w1.heap[k]? := fun k hk => Below.heap_setCell _ _ _ _ hk
      have hz : (w1.setCell ⟨Wd.heap.size, 0, none⟩ (.int .i64 0)).heap.size = w1.heap.size := by simp [World.setCell]
      have BW : Below w.heap.size w We := hW.trans (Be.mono hW.size)
      refine ⟨rfl, ⟨F.os.trans BW.os, F.tape.trans BW.tape, F.output.trans BW.output, by rw [hz]; exact Nat.le_trans BW.size F.size, fun k hk => ?_⟩, ?_, A, n, c, ⟨Below.refl _ _, ?_, ?_, ?_⟩⟩
      · have := hW.size
        rw [hs k (by omega), F.block k (by omega) (by omega)]
        exact BW.block k hk
      · rw [hs _ (by omega), F.block _ (by omega) (by omega), Be.block _ (by omega)]; exact rr
      · rw [hs _ (by omega)]; exact h1
      · exact (World.cell?_of_block (w := w1) (hs bt (by omega))).trans h2
      · exact (h3.keep fun g g1 g2 => hs g (by omega)).less (by omega)
set_option maxRecDepth 100000 in
set_option maxHeartbeats 4000000 in
theorem cparse_any (A0 : Option Addr) (n0 c0 : Nat) (bs : List Int) (w : World) (hb : Nums .u8 w w.heap.size A0 n0 bs) (hy : ∀ x ∈ bs, Byte x) (hn : n0 ≤ 9000) :
    Calls Try.prog 15 #[.slice A0 n0 c0] w (PsR w bs) := by
  have hzv := zeroPkt
  have hmf : ∀ (fn : Fn) (first cap : Array Value) (w : World), (Instr.makeFunc fn first cap).run Try.prog w = .ok (.func fn first cap) w := fun _ _ _ _ => rfl
  obtain ⟨Wa, hWa⟩ : ∃ W, W = w.alloc (.cells (pktV zPkt none 0 0) 28) := ⟨_, rfl⟩
  have sa : Wa.heap.size = w.heap.size + 1 := by rw [hWa]; exact alloc_size _ _
  have Ba : Below w.heap.size w Wa := by rw [hWa]; exact alloc_below _ _
  have RA := Lib.hid (show Wa.heap[w.heap.size]? = some (.cells (pktV zPkt none 0 0) 28 (0, 0)) by rw [hWa]; exact heap_alloc_new _ _)
  have RD := Lib.hid (octC.read_any A0 n0 c0 bs Wa ((hb.below Ba).more Ba.size) (by omega))
  have SA := Lib.hid sa
  have HBA := Lib.hid Ba
  have HM := Lib.hid (show bs.length ≤ 9000 by rw [hb.len]; exact hn)
  have HY := Lib.hid hy
  have UPP := Lib.hid (fun A n c => (pkC (psP_ok hy) A n c).info)
  have SPP := Lib.hid (fun A n c => (pkC zPkt_ok none 0 0).size.trans (pkC (psP_ok hy) A n c).size.symm)
  have OPP := Lib.hid (fun A n c => pkt_one (psP bs) A n c)
  have hzr := zeroRdr
  clear hb hy hn sa Ba
  have TQ := Lib.hid (fun (Wd : World) (r0 g q B bp bt : Nat) (hW : Below w.heap.size w Wd) (h0 : r0 = w.heap.size) (hg : RdB Wd g q 0) (h : RdD Wd q B bs) (o1 : r0 < q) (o2 : q < g) (o3 : g < bp) (o4 : bp < bt) rr rp rt => try_any w Wd r0 g q B bp bt bs hW h0 hg h HM.out HY.out o1 o2 o3 o4 rr rp rt)
  unfold TryQ at TQ
  generalize hZ : pktV zPkt none 0 0 = Z at *
  clear hZ
  obtain ⟨r0, hr0⟩ : ∃ r0, r0 = w.heap.size := ⟨_, rfl⟩
  have ER0 := Lib.hid hr0
  go_enter Try.func15, Try.ntmps15
  go_upto_region 1 with fail
  rw [← hWa, ← hr0]
  rw [← hr0] at RA SA
  clear hWa hr0
  go_upto_region 2 with (first
    | (go_at_call 29; (refine RD.out.mono ?_); rintro e w1 ⟨q, rfl, hq, R, B1⟩
       have R1 := Lib.hid R.rdD
       have HQ := Lib.hid (show r0 < q by have := SA.out; omega)
       have HQ1 := Lib.hid R.rdD.lt
       have HB1 := Lib.hid (HBA.out.trans (B1.mono HBA.out.size))
       have RA1 := Lib.hid (show w1.heap[r0]? = some (.cells Z 28 (0, 0)) by rw [B1.block _ (lt_of_row RA.out)]; exact RA.out)
       clear R B1 hq))
  have BA2 := Lib.hid (alloc_below w1 (.cells #[.pointer (some ⟨q, 0, none⟩), .int .u8 0] 59))
  have R2 := Lib.hid (R1.out.below BA2.out)
  have HB2 := Lib.hid (HB1.out.trans (BA2.out.mono HB1.out.size))
  have RA2 := Lib.hid (show (w1.alloc (.cells #[.pointer (some ⟨q, 0, none⟩), .int .u8 0] 59)).heap[r0]? = some (.cells Z 28 (0, 0)) by rw [BA2.out.block _ (lt_of_row RA1.out)]; exact RA1.out)
  have RG2 := Lib.hid (show RdB (w1.alloc (.cells #[.pointer (some ⟨q, 0, none⟩), .int .u8 0] 59)) w1.heap.size q 0 from heap_alloc_new w1 _)
  obtain ⟨g, hg⟩ : ∃ g, g = w1.heap.size := ⟨_, rfl⟩
  have HQG := Lib.hid (show q < g by rw [hg]; exact HQ1.out)
  rw [← hg] at RG2
  clear BA2 R1 HB1 RA1 RA RD SA HBA HQ1 hzr
  generalize w1.alloc (.cells #[.pointer (some ⟨q, 0, none⟩), .int .u8 0] 59) = w2 at *
  rw [← hg]
  clear hg
  obtain ⟨Wc, hWc⟩ : ∃ W, W = w2.alloc (.cells Z 28) := ⟨_, rfl⟩
  obtain ⟨Wd, hWd⟩ : ∃ W, W = Wc.alloc (.cells #[.int .i64 0] 31) := ⟨_, rfl⟩
  have Bc : Below w2.heap.size w2 Wc := by rw [hWc]; exact alloc_below _ _
  have Bd : Below Wc.heap.size Wc Wd := by rw [hWd]; exact alloc_below _ _
  have sc : Wc.heap.size = w2.heap.size + 1 := by rw [hWc]; exact alloc_size _ _
  have Bcd : Below w2.heap.size w2 Wd := Bc.trans (Bd.mono Bc.size)
  have rr : Wd.heap[r0]? = some (.cells Z 28 (0, 0)) := by rw [Bcd.block _ (lt_of_row RA2.out)]; exact RA2.out
  have rp : Wd.heap[w2.heap.size]? = some (.cells Z 28 (0, 0)) := by rw [Bd.block _ (by omega), hWc]; exact heap_alloc_new _ _
  have rt : Wd.heap[Wc.heap.size]? = some (.cells #[.int .i64 0] 31 (0, 0)) := by rw [hWd]; exact heap_alloc_new _ _
  obtain ⟨x, y, hxy, T0⟩ := TQ.out Wd r0 g q q w2.heap.size Wc.heap.size (HB2.out.trans (Bcd.mono HB2.out.size)) ER0.out (RG2.out.fr (S := fun _ => False) (Fr.below Bcd) (fun e => e)) (R2.out.below Bcd) HQ.out HQG.out (lt_of_row RG2.out) (by omega) rr rp rt
  have T := Lib.hid T0
  have EXY := Lib.hid hxy
  obtain ⟨bp, hbp⟩ : ∃ b, b = w2.heap.size := ⟨_, rfl⟩
  obtain ⟨bt, hbt⟩ : ∃ b, b = Wc.heap.size := ⟨_, rfl⟩
  rw [← hbp, ← hbt] at T
  have SC := Lib.hid (show bt = bp + 1 by omega)
  have N1 := Lib.hid (show bp ≠ r0 by have := lt_of_row RA2.out; omega)
  have N2 := Lib.hid (show bt ≠ r0 by have := lt_of_row RA2.out; omega)
  have L0 := Lib.hid (show w.heap.size ≤ r0 from Nat.le_of_eq ER0.out.symm)
  clear T0 hxy rr rp rt Bc Bd Bcd sc HB2 R2 RA2 RG2 HQ HQG TQ
  go_upto_region 4 with fail
  rw [← hWc, ← hWd, ← hbp, ← SC.out]
  clear hWc hWd hzv hbp hbt
  go_upto_region 5 with (first
    | (go_at_call 30; (refine T.out.mono ?_); rintro e Wr ⟨rfl, BR, R0, A, n, c, G0⟩
       have HBR := Lib.hid BR
       have HR0 := Lib.hid R0
       have HG := Lib.hid G0
       clear BR R0 G0))
  have UP := Lib.hid (UPP.out A n c)
  have SP := Lib.hid (SPP.out A n c)
  have OP := Lib.hid (OPP.out A n c)
  clear UPP SPP OPP T hmf
  obtain ⟨r, hr⟩ : ∃ r : Int, r = (if x = 0 then y else x) := ⟨_, rfl⟩
  have ER := Lib.hid hr.symm
  clear hr
  have FIN := Lib.hid (fun w2 (h : PaG w Wr r0 bp bt (pktV (psP bs) A n c) y A n c (psX bs) w2) => (show PsR w bs (.returned (.tuple #[.agg (pktV (psP bs) A n c), .int .i64 r])) w2 from ⟨A, n, c, by rw [← ER.out, EXY.out], h.own.nums, HBR.out.trans h.bel⟩))
  generalize pktV (psP bs) A n c = C at *
  generalize psX bs = X at *
  have LR0 := Lib.hid (lt_of_row HR0.out)
  clear EXY
  refine with_act fun a0 ha0 => ?_
  have hl : paT.length = a0.tmps.size := by rw [ha0]; rfl
  have k2 : a0.tmps[2]?.getD undef = .pointer (some ⟨r0, 0, none⟩) := by rw [ha0]; rfl
  have k5 : a0.tmps[5]?.getD undef = .pointer (some ⟨bp, 0, none⟩) := by rw [ha0]; rfl
  have k6 : a0.tmps[6]?.getD undef = .pointer (some ⟨bt, 0, none⟩) := by rw [ha0]; rfl
  have k7 : a0.tmps[7]?.getD undef = .int .i64 x := by rw [ha0]; rfl
  refine wp_region_chd (by kernel_rfl) paT (by kernel_rfl) (by kernel_rfl) hl (fun i => if i = 6 then .int .i64 0 else undef) (by rw [ha0]; rfl) (r0) (OnlyAt r0) [5] (by kernel_rfl) (by decide) (by decide) (fun w' => PaG w Wr r0 bp bt C y A n c X w' ∧ r0 < w'.heap.size) (paV r0 bp bt x y r C) (paR r0 Z C) (Nat.le_of_lt LR0.out) ⟨HG.out.keep L0.out (Nat.le_of_lt LR0.out) N1.out N2.out (.inl (Below.refl _ _).drew), LR0.out⟩ HR0.out (fun w1 w2 hb hd h => ⟨h.1.keep L0.out (Nat.le_of_lt h.2) N1.out N2.out hd, by rcases hd with hd | hd; exact Nat.lt_of_lt_of_le h.2 hd.size; exact Nat.lt_of_lt_of_le h.2 hd.1.size⟩) (fun i v w w' _ hd h => paV.keep _ _ _ _ _ _ _ i v w w' hd h) (fun k us us' w w' _ _ hb hR => paR.keep _ _ _ k us us' w w' hb hR) ⟨?_, ?_, ?_, ?_, ?_, ?_, ?_, trivial⟩ ?_
  · refine stepD_val [] (by kernel_rfl) (by decide) (by decide) rfl fun us w' hB hG hV => ?_
    have o5 := (frame_old2 (us := us) (a := a0) (show (paT[5]?).join = none from rfl)).trans k5
    have hg1 := hG.1.pk
    generalize frame paT a0 us = fr at *
    exact load_C 28 5 rfl (bp) o5 _ _ (0, 0) _ hg1 Try.underlying28 rfl UP.out rfl
  · refine stepD_val [] (by kernel_rfl) (by decide) (by decide) rfl fun us w' hB hG hV => ?_
    have o7 := (frame_old2 (us := us) (a := a0) (show (paT[7]?).join = none from rfl)).trans k7
    generalize frame paT a0 us = fr at *
    exact val_C (v := .int .i64 x) (w' := w') (by go_simp) (Below.refl _ _) rfl
  · refine stepD_val [] (by kernel_rfl) (by decide) (by decide) rfl fun us w' hB hG hV => ?_
    have o6 := (frame_old2 (us := us) (a := a0) (show (paT[6]?).join = none from rfl)).trans k6
    have hc := hG.1.told
    generalize frame paT a0 us = fr at *
    exact val_C (v := .int .i64 y) (w' := w') (by go_simp) (Below.refl _ _) rfl
  · refine stepD_val [1, 2] (by kernel_rfl) (by decide) (by decide) rfl fun us w' hB hG hV => ?_
    have e1 : us 1 = .int .i64 x := hV 1 (by simp)
    have v1 := (frame_at2 (us := us) hl (show (paT[14]?).join = some 1 from rfl)).trans e1
    have e2 : us 2 = .int .i64 y := hV 2 (by simp)
    have v2 := (frame_at2 (us := us) hl (show (paT[15]?).join = some 2 from rfl)).trans e2
    generalize frame paT a0 us = fr at *
    exact val_C (v := .slice (some ⟨w'.heap.size, 0, none⟩) 2 2) (w' := w'.alloc (.cells #[.int .i64 x, .int .i64 y] 31)) (by go_simp) (alloc_below _ _) ⟨_, rfl, (Nat.ne_of_gt hG.2), heap_alloc_new _ _⟩
  · refine stepD_val [3] (by kernel_rfl) (by decide) (by decide) rfl fun us w' hB hG hV => ?_
    obtain ⟨g3, e3, n3, r3⟩ := (show ∃ g, us 3 = .slice (some ⟨g, 0, none⟩) 2 2 ∧ g ≠ r0 ∧ w'.heap[g]? = some (.cells #[.int .i64 x, .int .i64 y] 31 (0, 0)) from hV 3 (by simp))
    have v3 := (frame_at2 (us := us) hl (show (paT[16]?).join = some 3 from rfl)).trans e3
    generalize frame paT a0 us = fr at *
    exact call_C (f := 33) (args := #[.slice (some ⟨g3, 0, none⟩) 2 2]) (by go_simp) ((cor_any x y g3 w' r3).mono fun e w'' h => ⟨.int .i64 r, by rw [h.1, ER.out], h.2 ▸ Below.refl _ _, rfl⟩)
  · refine stepD_chain 0 rfl (by decide) [0] (by kernel_rfl) (by decide) rfl fun us w' hB hG hV hR => ?_
    have e0 : us 0 = .agg C := hV 0 (by simp)
    have v0 := (frame_at2 (us := us) hl (show (paT[13]?).join = some 0 from rfl)).trans e0
    have o2 := (frame_old2 (us := us) (a := a0) (show (paT[2]?).join = none from rfl)).trans k2
    generalize frame paT a0 us = fr at *
    exact store_J (R := fun v w'' => (OnlyAt r0 w' w'' ∧ Below r0 w' w'') ∧ paR r0 Z C 1 (upd us 5 v) w'') 28 2 13 rfl r0 C o2 v0 _ _ hR UP.out SP.out OP.out ⟨⟨OnlyAt.setRow _ _ _, (OnlyAt.setRow _ _ _).1⟩, setRow_heap _ _ _ _ _ _ hR⟩
  · refine stepD_val [4] (by kernel_rfl) (by decide) (by decide) rfl fun us w' hB hG hV => ?_
    have e4 : us 4 = .int .i64 r := hV 4 (by simp)
    have v4 := (frame_at2 (us := us) hl (show (paT[17]?).join = some 4 from rfl)).trans e4
    generalize frame paT a0 us = fr at *
    exact val_C (v := .int .i64 r) (w' := w') (by go_simp) (Below.refl _ _) rfl
  · intro us w2 hB2 hG hV hR
    have e6 : us 6 = .int .i64 r := hV 6 (by decide) (by decide)
    have hR1 := Lib.hid (show w2.heap[r0]? = some (.cells C 28 (0, 0)) from hR)
    have HG2 := Lib.hid hG.1
    subst ha0
    simp only [frame, paT, fill]
    rw [e6]
    clear hV hR hG hl k2 k5 k6 k7 e6
    go_wp2_with fail
    refine bodyPost_ret (v := .tuple #[.agg C, .int .i64 r]) (adC.results_cell_tmp Try.results15 _ _ r0 _ _ _ _ _ (by rfl) hR1.out Try.underlying28 rfl UP.out (by rfl)) rfl ?_
    exact FIN.out w2 HG2.out
end Go.Proofs.Ytbhcpbihbecphaa.sxC

/-
  Whether a packet may be: the document's.
-/
namespace Go.Proofs.Ytbhcpbihbecphaa.sxC
open Go.ChangeShapes Go.WideShapes Go.ChangeAt Go.RowKit
open Go.Proofs.Ytbhcpbihbecphaa.memC Go.Proofs.Ytbhcpbihbecphaa.genC Go.Proofs.Ytbhcpbihbecphaa.adC Go.Proofs.Ytbhcpbihbecphaa.pkC Go.Proofs.Ytbhcpbihbecphaa.freeC
set_option linter.unusedVariables false
set_option maxRecDepth 100000 in
set_option maxHeartbeats 4000000 in
theorem rmay_any (p : Pkt) (A : Option Addr) (n c : Nat) (w : World) (hp : p.Ok) (hn : n ≤ 9223372036854775807) :
    Calls Try.prog 14 #[.agg (pktV p A n c)] w (Ret w (.bool (mayS p n))) := by
  obtain ⟨W, hW⟩ : ∃ W, W = w.alloc (.cells (pktV p A n c) 28) := ⟨_, rfl⟩
  have R0 := Lib.hid (show W.heap[w.heap.size]? = some (.cells (pktV p A n c) 28 (0, 0)) by rw [hW]; exact heap_alloc_new w _)
  have HB := Lib.hid (show Below w.heap.size w W by rw [hW]; exact alloc_below _ _)
  have c0 := pkC hp A n c
  have k0 : W.cell? ⟨w.heap.size, 0, none⟩ = some (.bool p.s) := PkC.cell R0.out (c0.src 0 (.bool p.s) rfl)
  have k17 : W.cell? ⟨w.heap.size, 17, none⟩ = some (.bool p.t) := PkC.cell R0.out (c0.dst 0 (.bool p.t) rfl)
  have k34 := PkC.cell R0.out c0.proto
  have k36 := PkC.cell R0.out c0.id
  have k37 := PkC.cell R0.out c0.whole
  have k38 := PkC.cell R0.out c0.more
  have k39 := PkC.cell R0.out c0.off
  have k40 := PkC.cell R0.out c0.load
  obtain ⟨V, hV⟩ : ∃ V, V = mayS p n := ⟨_, rfl⟩
  rw [← hV]
  unfold mayS at hV
  have hi := hp.id
  have ho := hp.off
  have KN := Lib.hid (known_any p.proto W)
  generalize knownB p.proto = kn at *
  generalize p.proto = proto1 at *
  generalize p.s = s1 at *
  generalize p.t = t1 at *
  generalize pktV p A n c = CP at *
  generalize p.id = id1 at *
  generalize p.whole = whole1 at *
  generalize p.more = more1 at *
  generalize p.off = off1 at *
  have HV := Lib.hid hV
  obtain ⟨hi0, hi1⟩ := hi
  obtain ⟨ho0, ho1⟩ := ho
  clear hp c0 hV
  go_enter Try.func14, Try.ntmps14
  go_upto_region 1 with fail
  rw [← hW]
  clear hW
  cases s1
  · have hv := Lib.hid (show V = false by rw [HV.out]; first | (simp [*]; done) | (simp [*]; omega))
    go_wp2_with (first
      | go_skip
      | (go_at_call 28; (refine KN.out.mono ?_); rintro e w2 ⟨rfl, rfl⟩))
    go_ret
    exact ⟨ret_bool hv.out.symm, HB.out⟩
  · cases t1
    · have hv := Lib.hid (show V = false by rw [HV.out]; first | (simp [*]; done) | (simp [*]; omega))
      go_wp2_with (first
        | go_skip
        | (go_at_call 28; (refine KN.out.mono ?_); rintro e w2 ⟨rfl, rfl⟩))
      go_ret
      exact ⟨ret_bool hv.out.symm, HB.out⟩
    · by_cases h2 : off1 < 0
      · have g2 : ¬ 0 ≤ off1 := by omega
        have hv := Lib.hid (show V = false by rw [HV.out]; first | (simp [*]; done) | (simp [*]; omega))
        go_wp2_with (first
          | go_skip
          | (go_at_call 28; (refine KN.out.mono ?_); rintro e w2 ⟨rfl, rfl⟩))
        go_ret
        exact ⟨ret_bool hv.out.symm, HB.out⟩
      · have d2 : decide (off1 < 0) = false := decide_eq_false h2
        have g2 : 0 ≤ off1 := by omega
        by_cases h3 : ¬ off1 % 8 = 0
        · have d3 : (off1.tmod 8 == 0) = false := beq_eq_false_iff_ne.2 (by rw [Int.tmod_eq_emod_of_nonneg g2]; exact h3)
          have hv := Lib.hid (show V = false by rw [HV.out]; first | (simp [*]; done) | (simp [*]; omega))
          go_wp2_with (first
            | go_skip
            | (go_at_call 28; (refine KN.out.mono ?_); rintro e w2 ⟨rfl, rfl⟩))
          go_ret
          exact ⟨ret_bool hv.out.symm, HB.out⟩
        · have h3 : off1 % 8 = 0 := by omega
          have d3 : off1.tmod 8 = 0 := by rw [Int.tmod_eq_emod_of_nonneg g2]; exact h3
          by_cases h4 : 65528 < off1
          · have g4 : ¬ off1 ≤ 65527 - (n : Int) := by omega
            have hv := Lib.hid (show V = false by rw [HV.out]; first | (simp [*]; done) | (simp [*]; omega))
            go_wp2_with (first
              | go_skip
              | (go_at_call 28; (refine KN.out.mono ?_); rintro e w2 ⟨rfl, rfl⟩))
            go_ret
            exact ⟨ret_bool hv.out.symm, HB.out⟩
          · have d4 : decide (65528 < off1) = false := decide_eq_false h4
            by_cases h6 : (65527 : Int) < (n : Int)
            · have g6 : ¬ off1 ≤ 65527 - (n : Int) := by omega
              have hv := Lib.hid (show V = false by rw [HV.out]; first | (simp [*]; done) | (simp [*]; omega))
              go_wp2_with (first
                | go_skip
                | (go_at_call 28; (refine KN.out.mono ?_); rintro e w2 ⟨rfl, rfl⟩))
              go_ret
              exact ⟨ret_bool hv.out.symm, HB.out⟩
            · have d6 : decide ((65527 : Int) < (n : Int)) = false := decide_eq_false h6
              by_cases h5 : 65527 - (n : Int) < off1
              · have g5 : ¬ off1 ≤ 65527 - (n : Int) := by omega
                have hv := Lib.hid (show V = false by rw [HV.out]; first | (simp [*]; done) | (simp [*]; omega))
                go_wp2_with (first
                  | go_skip
                  | (go_at_call 28; (refine KN.out.mono ?_); rintro e w2 ⟨rfl, rfl⟩))
                go_ret
                exact ⟨ret_bool hv.out.symm, HB.out⟩
              · have d5 : decide (65527 - (n : Int) < off1) = false := decide_eq_false h5
                have g5 : off1 ≤ 65527 - (n : Int) := by omega
                have wn : IntKind.i64.wrap (65527 - (n : Int)) = 65527 - (n : Int) := IntWalk.i64_in _ (by omega)
                cases more1
                · cases kn
                  · cases whole1
                    · have hv := Lib.hid (show V = true by rw [HV.out]; first | (simp [*]; done) | (simp [*]; omega))
                      go_wp2_with (first
                        | go_skip
                        | (go_at_call 28; (refine KN.out.mono ?_); rintro e w2 ⟨rfl, rfl⟩))
                      go_ret
                      exact ⟨ret_bool hv.out.symm, HB.out⟩
                    · by_cases h0 : off1 = 0
                      · by_cases h9 : id1 = 0
                        · have hv := Lib.hid (show V = true by rw [HV.out]; first | (simp [*]; done) | (simp [*]; omega))
                          go_wp2_with (first
                            | go_skip
                            | (go_at_call 28; (refine KN.out.mono ?_); rintro e w2 ⟨rfl, rfl⟩))
                          go_ret
                          exact ⟨ret_bool hv.out.symm, HB.out⟩
                        · have q9 : (id1 == 0) = false := beq_eq_false_iff_ne.2 h9
                          have hv := Lib.hid (show V = false by rw [HV.out]; first | (simp [*]; done) | (simp [*]; omega))
                          go_wp2_with (first
                            | go_skip
                            | (go_at_call 28; (refine KN.out.mono ?_); rintro e w2 ⟨rfl, rfl⟩))
                          go_ret
                          exact ⟨ret_bool hv.out.symm, HB.out⟩
                      · have q0 : (off1 == 0) = false := beq_eq_false_iff_ne.2 h0
                        have hv := Lib.hid (show V = false by rw [HV.out]; first | (simp [*]; done) | (simp [*]; omega))
                        go_wp2_with (first
                          | go_skip
                          | (go_at_call 28; (refine KN.out.mono ?_); rintro e w2 ⟨rfl, rfl⟩))
                        go_ret
                        exact ⟨ret_bool hv.out.symm, HB.out⟩
                  · have hv := Lib.hid (show V = false by rw [HV.out]; first | (simp [*]; done) | (simp [*]; omega))
                    go_wp2_with (first
                      | go_skip
                      | (go_at_call 28; (refine KN.out.mono ?_); rintro e w2 ⟨rfl, rfl⟩))
                    go_ret
                    exact ⟨ret_bool hv.out.symm, HB.out⟩
                · by_cases h8 : n % 8 = 0
                  · have t8 : (n : Int).tmod 8 = 0 := by rw [Int.tmod_eq_emod_of_nonneg (by omega)]; omega
                    cases kn
                    · cases whole1
                      · have hv := Lib.hid (show V = true by rw [HV.out]; first | (simp [*]; done) | (simp [*]; omega))
                        go_wp2_with (first
                          | go_skip
                          | (go_at_call 28; (refine KN.out.mono ?_); rintro e w2 ⟨rfl, rfl⟩))
                        go_ret
                        exact ⟨ret_bool hv.out.symm, HB.out⟩
                      · have hv := Lib.hid (show V = false by rw [HV.out]; first | (simp [*]; done) | (simp [*]; omega))
                        go_wp2_with (first
                          | go_skip
                          | (go_at_call 28; (refine KN.out.mono ?_); rintro e w2 ⟨rfl, rfl⟩))
                        go_ret
                        exact ⟨ret_bool hv.out.symm, HB.out⟩
                    · have hv := Lib.hid (show V = false by rw [HV.out]; first | (simp [*]; done) | (simp [*]; omega))
                      go_wp2_with (first
                        | go_skip
                        | (go_at_call 28; (refine KN.out.mono ?_); rintro e w2 ⟨rfl, rfl⟩))
                      go_ret
                      exact ⟨ret_bool hv.out.symm, HB.out⟩
                  · have t8 : ((n : Int).tmod 8 == 0) = false := beq_eq_false_iff_ne.2 (by rw [Int.tmod_eq_emod_of_nonneg (by omega)]; omega)
                    have hv := Lib.hid (show V = false by rw [HV.out]; first | (simp [*]; done) | (simp [*]; omega))
                    go_wp2_with (first
                      | go_skip
                      | (go_at_call 28; (refine KN.out.mono ?_); rintro e w2 ⟨rfl, rfl⟩))
                    go_ret
                    exact ⟨ret_bool hv.out.symm, HB.out⟩
end Go.Proofs.Ytbhcpbihbecphaa.sxC

/-
  The document's addresses: their bytes, any bytes' address.
-/
namespace Go.Proofs.Ytbhcpbihbecphaa.adC
open Go.ChangeShapes Go.WideShapes Go.ChangeAt Go.RowKit
open Go.Proofs.Ytbhcpbihbecphaa.memC Go.Proofs.Ytbhcpbihbecphaa.genC Go.Proofs.Ytbhcpbihbecphaa.butC Go.Proofs.Ytbhcpbihbecphaa.freeC Go.Proofs.Ytbhcpbihbecphaa.txC
set_option linter.unusedVariables false
/-- behind k bytes -/
def ofT (bs : List Int) (k : Nat) : List Int := bs.take k ++ zs (16 - k)
theorem ofT_len {bs : List Int} {k : Nat} (h : k ≤ bs.length) (h16 : k ≤ 16) : (ofT bs k).length = 16 := by unfold ofT; rw [List.length_append, List.length_take, zs_len]; omega
theorem ofT_set {bs : List Int} {k : Nat} (h : k < bs.length) (h16 : k < 16) : (ofT bs k).set k (bs.getD k 0) = ofT bs (k + 1) := by
  unfold ofT
  have hl : (bs.take k).length = k := by rw [List.length_take]; omega
  rw [List.set_append_right _ _ (by omega), hl, Nat.sub_self]
  rw [List.take_succ_eq_append_getElem h, List.append_assoc]
  congr 1
  rw [show 16 - k = (16 - (k + 1)) + 1 by omega, List.getD_eq_getElem?_getD, List.getElem?_eq_getElem h]
  rfl
theorem ofL_some {bs : List Int} {s : Bool} {n : Nat} (hl : bs.length = n) (hs : (n = 4 ∧ s = false) ∨ (n = 16 ∧ s = true)) : ofL bs = some (s, ofT bs n) := by
  unfold ofL ofT
  rcases hs with ⟨h, rfl⟩ | ⟨h, rfl⟩
  · rw [if_pos (hl.trans h), List.take_of_length_le (by omega), h]
  · rw [if_neg (by omega), if_pos (hl.trans h), List.take_of_length_le (by omega), h]; simp [zs]
set_option maxRecDepth 100000 in
set_option maxHeartbeats 2000000 in
theorem rof_some (A : Option Addr) (n c : Nat) (bs : List Int) (s : Bool) (w : World) (hb : Nums .u8 w w.heap.size A n bs) (hs : (n = 4 ∧ s = false) ∨ (n = 16 ∧ s = true)) :
    Calls Try.prog 35 #[.slice A n c] w (ORet 1 w (ofL bs)) := by
  have hzv := zeroAdr
  have e1 : (w.alloc (.cells zAdr 24)).heap.size = w.heap.size + 1 := alloc_size _ _
  have HV := Lib.hid (ofL_some hb.len hs)
  rw [HV.out]
  have HL := Lib.hid hb.len
  have NB := Lib.hid hb
  have n16 : n ≤ 16 := by omega
  obtain ⟨W, hW⟩ : ∃ W, W = (w.alloc (.cells zAdr 24)).alloc (.cells (adrV s (zs 16)) 24) := ⟨_, rfl⟩
  have hse : zAdr.setIfInBounds 0 (.bool s) = adrV s (zs 16) := by cases s <;> kernel_rfl
  have RN : Hid (((w.alloc (.cells zAdr 24)).alloc (.cells zAdr 24)).heap[w.heap.size + 1]? = some (.cells zAdr 24 (0, 0))) := Lib.hid (by rw [← e1]; exact heap_alloc_new _ _)
  have UI := Lib.hid (adr_info s (zs_len 16))
  have ZI := Lib.hid (z_size s (zs_len 16))
  have OI := Lib.hid (adrV_one s (zs 16))
  have S0 := Lib.hid (show FSt w (w.heap.size + 1) s (ofT bs 0) W from ⟨by rw [hW]; exact ((Below.refl _ _).alloc (Nat.le_refl _) _).alloc (by simp) _, by rw [hW, Below.block (alloc_below _ _) _ (by rw [e1]; omega)]; exact heap_alloc_new w _, by rw [hW, ← e1]; exact heap_alloc_new _ _, by omega, zs_len 16⟩)
  have HF' := Lib.hid (fun (b : List Int) (h : b.length = 16) => And.intro (adr_info s h) (And.intro (z_size s h) (adrV_one s b)))
  have HT := Lib.hid (fun (k : Nat) (hk : k < n) => ofT_set (bs := bs) (k := k) (by rw [hb.len]; exact hk) (by omega))
  have LT := Lib.hid (fun (k : Nat) (hk : k ≤ n) => ofT_len (bs := bs) (k := k) (by rw [hb.len]; exact hk) (by omega))
  have q0 : ((n : Int) == 16) = s := by rcases hs with ⟨rfl, rfl⟩ | ⟨rfl, rfl⟩ <;> rfl
  have q5 : n = 4 ∨ n = 16 := by omega
  have HQ5 := Lib.hid q5
  clear hb hs
  by_cases h4 : n = 4
  · have q1 : ((n : Int) != 4) = false := by subst h4; rfl
    have q2 : ((n : Int) == 4) = true := by subst h4; rfl
    clear q5 h4
    go_enter Try.func35, Try.ntmps35
    go_upto_region 4 with (first
      | (refine wpList_store_row rfl 24 (.tmp 4) (.tmp 18) rfl (w.heap.size + 1) _ rfl rfl _ _ RN.out UI.out ZI.out OI.out ?_))
    rw [← e1, World.setRow_alloc_new, ← hW, e1]
    obtain ⟨g, hgd⟩ : ∃ g, g = w.heap.size + 1 := ⟨_, rfl⟩
    have HGL := Lib.hid (show w.heap.size < g by omega)
    rw [← hgd] at S0 ⊢
    clear hW e1 hzv hgd RN hse q0
    have hz16 : (n : Int) ≤ 16 := by omega
    go_wp2_with fail
    go_loopw [5] (fun v wr => ∃ i : Nat, i ≤ n ∧ v = .int .i64 i ∧ FSt w g s (ofT bs i) wr) (fun v _ => n - (intOf v).toNat)
    case atStart => exact ⟨0, by omega, rfl, S0.out⟩
    case round =>
      obtain ⟨i, hi, rfl, KK⟩ := hrel
      have HK := Lib.hid KK
      clear KK
      by_cases hlt : i < n
      · obtain ⟨gb, go, rfl, hgb, hc0⟩ := NB.out.cell (i := i) hlt
        have hzm : (i : Int) < (n : Int) := by omega
        have cx : wr.cell? ⟨gb, go + i, none⟩ = some (.int .u8 (bs.getD i 0)) := (HK.out.bel.cell (p := ⟨gb, go + i, none⟩) hgb).trans hc0
        have HST := Lib.hid (HT.out i hlt)
        have hc1 := HK.out.cell (i := i) (by omega)
        have hf1 := HK.out.frozen (1 + i)
        have HF2 := Lib.hid (HK.out.set i (bs.getD i 0))
        rw [HST.out] at HF2
        clear hc0
        generalize bs.getD i 0 = x at *
        have iz : (i : Int) < 16 := by omega
        go_wp2_with fail
        go_roundw
        case rel => exact ⟨i + 1, by omega, by go_num, HF2.out⟩
        case measure => simp [intOf]; omega
      · have e : i = n := by omega
        subst e
        have HR := Lib.hid HK.out.row
        have HR0 := Lib.hid HK.out.res
        have HB := Lib.hid HK.out.bel
        have U := Lib.hid (HF'.out (ofT bs i) (LT.out i (Nat.le_refl _)))
        generalize hTT : adrV s (ofT bs i) = T at *
        have HTT := Lib.hid hTT
        clear hTT
        go_wp2_with (first
          | (refine wpList_load_row rfl 24 (.tmp 4) rfl g rfl _ _ _ _ HR.out Try.underlying24 rfl U.out.1 ?_)
          | (refine wpList_store_row rfl 24 (.tmp 2) (.tmp 32) rfl w.heap.size _ rfl rfl _ _ HR0.out U.out.1 U.out.2.1 U.out.2.2 ?_))
        refine bodyPost_ret (v := .tuple #[.agg T, .int .i64 0]) (results_cell_tmp Try.results35 _ _ w.heap.size _ _ _ _ _ (by rfl) (setRow_heap _ _ _ _ _ _ HR0.out) Try.underlying24 rfl U.out.1 (by rfl)) rfl ?_
        exact ⟨by rw [← HTT.out], HB.out.trans ⟨rfl, rfl, rfl, by simp, fun z hz => setRow_other _ _ _ _ (by omega)⟩⟩
  · have h16 : n = 16 := by omega
    have q1 : ((n : Int) != 4) = true := by subst h16; rfl
    have q2 : ((n : Int) == 4) = false := by subst h16; rfl
    have q3 : ((n : Int) != 16) = false := by subst h16; rfl
    clear q5 h4 h16
    go_enter Try.func35, Try.ntmps35
    go_upto_region 4 with (first
      | (refine wpList_store_row rfl 24 (.tmp 4) (.tmp 18) rfl (w.heap.size + 1) _ rfl rfl _ _ RN.out UI.out ZI.out OI.out ?_))
    rw [← e1, World.setRow_alloc_new, ← hW, e1]
    obtain ⟨g, hgd⟩ : ∃ g, g = w.heap.size + 1 := ⟨_, rfl⟩
    have HGL := Lib.hid (show w.heap.size < g by omega)
    rw [← hgd] at S0 ⊢
    clear hW e1 hzv hgd RN hse q0
    have hz16 : (n : Int) ≤ 16 := by omega
    go_wp2_with fail
    go_loopw [5] (fun v wr => ∃ i : Nat, i ≤ n ∧ v = .int .i64 i ∧ FSt w g s (ofT bs i) wr) (fun v _ => n - (intOf v).toNat)
    case atStart => exact ⟨0, by omega, rfl, S0.out⟩
    case round =>
      obtain ⟨i, hi, rfl, KK⟩ := hrel
      have HK := Lib.hid KK
      clear KK
      by_cases hlt : i < n
      · obtain ⟨gb, go, rfl, hgb, hc0⟩ := NB.out.cell (i := i) hlt
        have hzm : (i : Int) < (n : Int) := by omega
        have cx : wr.cell? ⟨gb, go + i, none⟩ = some (.int .u8 (bs.getD i 0)) := (HK.out.bel.cell (p := ⟨gb, go + i, none⟩) hgb).trans hc0
        have HST := Lib.hid (HT.out i hlt)
        have hc1 := HK.out.cell (i := i) (by omega)
        have hf1 := HK.out.frozen (1 + i)
        have HF2 := Lib.hid (HK.out.set i (bs.getD i 0))
        rw [HST.out] at HF2
        clear hc0
        generalize bs.getD i 0 = x at *
        have iz : (i : Int) < 16 := by omega
        go_wp2_with fail
        go_roundw
        case rel => exact ⟨i + 1, by omega, by go_num, HF2.out⟩
        case measure => simp [intOf]; omega
      · have e : i = n := by omega
        subst e
        have HR := Lib.hid HK.out.row
        have HR0 := Lib.hid HK.out.res
        have HB := Lib.hid HK.out.bel
        have U := Lib.hid (HF'.out (ofT bs i) (LT.out i (Nat.le_refl _)))
        generalize hTT : adrV s (ofT bs i) = T at *
        have HTT := Lib.hid hTT
        clear hTT
        go_wp2_with (first
          | (refine wpList_load_row rfl 24 (.tmp 4) rfl g rfl _ _ _ _ HR.out Try.underlying24 rfl U.out.1 ?_)
          | (refine wpList_store_row rfl 24 (.tmp 2) (.tmp 32) rfl w.heap.size _ rfl rfl _ _ HR0.out U.out.1 U.out.2.1 U.out.2.2 ?_))
        refine bodyPost_ret (v := .tuple #[.agg T, .int .i64 0]) (results_cell_tmp Try.results35 _ _ w.heap.size _ _ _ _ _ (by rfl) (setRow_heap _ _ _ _ _ _ HR0.out) Try.underlying24 rfl U.out.1 (by rfl)) rfl ?_
        exact ⟨by rw [← HTT.out], HB.out.trans ⟨rfl, rfl, rfl, by simp, fun z hz => setRow_other _ _ _ _ (by omega)⟩⟩
set_option maxRecDepth 100000 in
theorem rof_no (A : Option Addr) (n c : Nat) (bs : List Int) (w : World) (hl : bs.length = n) (h4 : n ≠ 4) (h16 : n ≠ 16) :
    Calls Try.prog 35 #[.slice A n c] w (ORet 1 w (ofL bs)) := by
  have hzv := zeroAdr
  have Z0 := Lib.hid z_info; have Z1 := Lib.hid z_one; have Z2 := Lib.hid built_zero
  have R0 := Lib.hid (show (w.alloc (.cells zAdr 24)).heap[w.heap.size]? = some (.cells zAdr 24 (0, 0)) from heap_alloc_new w _)
  have B0 := Lib.hid (alloc_below w (.cells zAdr 24))
  have HV : Hid (ofL bs = none) := Lib.hid (by unfold ofL; rw [if_neg (by omega), if_neg (by omega)])
  have q1 : ((n : Int) != 4) = true := by simp; omega
  have q2 : ((n : Int) == 4) = false := by simp; omega
  have q3 : ((n : Int) != 16) = true := by simp; omega
  have q4 : ((n : Int) == 16) = false := by simp; omega
  rw [HV.out]
  clear hl h4 h16
  generalize hZ : zAdr = Z at *
  have HZ := Lib.hid hZ
  clear hZ
  go_enter Try.func35, Try.ntmps35
  go_wp2_with (first
    | (refine wpList_zero rfl 24 rfl Z Z2.out ?_)
    | (refine wpList_store_row rfl 24 (.tmp 2) (.tmp 14) rfl w.heap.size Z rfl rfl _ _ R0.out Z0.out rfl Z1.out ?_))
  refine bodyPost_ret (v := .tuple #[.agg Z, .int .i64 1]) (results_cell_tmp Try.results35 _ _ w.heap.size _ _ _ _ _ (by rfl) (setRow_heap _ _ _ _ _ _ R0.out) Try.underlying24 rfl Z0.out (by rfl)) rfl ?_
  exact ⟨by rw [← HZ.out], B0.out.trans ⟨rfl, rfl, rfl, by simp, fun z hz => setRow_other _ _ _ _ (by omega)⟩⟩
theorem rof_any (A : Option Addr) (n c : Nat) (bs : List Int) (w : World) (hb : Nums .u8 w w.heap.size A n bs) : Calls Try.prog 35 #[.slice A n c] w (ORet 1 w (ofL bs)) := by
  by_cases h4 : n = 4
  · exact rof_some A n c bs false w hb (.inl ⟨h4, rfl⟩)
  · by_cases h16 : n = 16
    · exact rof_some A n c bs true w hb (.inr ⟨h16, rfl⟩)
    · exact rof_no A n c bs w hb.len h4 h16
end Go.Proofs.Ytbhcpbihbecphaa.adC

/-
  append as an operation of a region that draws its order; literals of numbers.
-/
namespace Go.Proofs.Ytbhcpbihbecphaa.freeC
open Go.ChangeShapes Go.WideShapes Go.ChangeAt Go.RowKit
open Go.Proofs.Ytbhcpbihbecphaa.memC
set_option linter.unusedVariables false
/-- append(own, numbers...) as an operation of a region that draws its order; the operands as they are -/
theorem append_Jo {P : Program} {Q : Exit → Act → World → Prop} {R : Value → World → Prop} {fr : Act} {o : Oper} {w : World} {kd : IntKind} (s x : Operand) (t : TypeId) (ho : o.op = .call { callee := .builtin .append, args := #[s, x], argTypes := #[t, t] })
    (e : TypeId) (i : TypeInfo) (z : Value) (bytes : Nat) (ht : P.underlying t = some (.slice e)) (hi : P.info? e = some i) (hz : i.zero = some z)
    (hsize : i.size = 1) (hby : i.bytes = bytes) (hzs : z.cells.size = 1) (base : Nat) (v : Value) (xs : List Int) (hs : fr.eval s = v) (hown : Own kd e w base v xs)
    (B : Nat) (A : Option Addr) (m c : Nat) (news : List Int) (hx : fr.eval x = .slice A m c) (hr : Nums kd w B A m news) (h63 : xs.length + m ≤ maxLen) (hbytes : (xs.length + m) * bytes ≤ 140737488355328) (hbase : base ≤ w.heap.size) (L : Nat) (hL : xs.length + m = L)
    (h : ∀ A' c' w', L ≤ c' → c' ≤ maxLen → Own kd e w' base (.slice A' L c') (xs ++ news) → Below base w w' → R (.slice A' L c') w') : o.wp P fr w (fun a' w' => ∃ v, a' = fr.put o.dst v ∧ R v w') Q := by
  obtain ⟨v', w', hrun, h2, h3⟩ := run_app (P := P) w t o.type e i z bytes ht hi hz hsize hby hzs base v xs hown B A m c news hr h63 hbytes hbase
  have e : (xs ++ news).length = L := by rw [List.length_append, hr.len]; exact hL
  obtain ⟨A', c', e2, g1, g2, N⟩ := h2.form
  rw [e] at e2 g1 N
  subst e2
  unfold Oper.wp execOp
  simp only [ho, resolve, invoke, builtin, Sem.run_bind, Sem.run_pure, Result.andThen_ok, List.map_toArray, List.map_cons, List.map_nil, hs, hx, hrun]
  exact ⟨_, rfl, h A' c' w' g1 g2 h2 (grown_below h3 hbase fun g hg => (hown.blk g hg).1)⟩
theorem eval_tmp {fr : Act} {s : Nat} {v : Value} (h : fr.tmps[s]?.getD undef = v) : fr.eval (.tmp s) = v := by simpa only [Act.eval, Array.getD_eq_getD_getElem?] using h
/-- a literal of numbers, just laid -/
theorem lit_nums (k : IntKind) (w : World) (xs : List Int) (T : TypeId) (C : Array Value) (hC : C = (xs.map (Value.int k)).toArray) (n : Nat) (hn : xs.length = n) :
    Nums k (w.alloc (.cells C T)) (w.heap.size + 1) (some ⟨w.heap.size, 0, none⟩) n xs := by
  subst hC
  refine ⟨hn, fun _ => ⟨_, 0, rfl, Nat.lt_succ_self _, fun i hi => ?_⟩⟩
  have hi2 : i < xs.length := by omega
  rw [cell_of_row _ w.heap.size (0 + i) _ _ (0, 0) (heap_alloc_new w _)]
  simp [List.getD_eq_getElem?_getD, hi2]
end Go.Proofs.Ytbhcpbihbecphaa.freeC

/-
  The sum of 16-bit numbers, and what passes 16 bits added below: plain mathematics.
-/
namespace Go.Proofs.Ytbhcpbihbecphaa.chkM
open Go.Proofs.Ytbhcpbihbecphaa.memC
set_option linter.unusedVariables false
def Byte (x : Int) : Prop := 0 ≤ x ∧ x ≤ 255
end Go.Proofs.Ytbhcpbihbecphaa.chkM

/-
  What the two Sums and Check do, of any parts.
-/
namespace Go.Proofs.Ytbhcpbihbecphaa.chkC
open Go.ChangeShapes Go.WideShapes Go.ChangeAt Go.RowKit
open Go.Proofs.Ytbhcpbihbecphaa.memC Go.Proofs.Ytbhcpbihbecphaa.chkM
set_option linter.unusedVariables false
/-- a part: a slice, and what it holds -/
structure Part where
  A : Option Addr
  n : Nat
  c : Nat
  bs : List Int
/-- a part that lies in memory below B -/
structure PartAt (w : World) (B : Nat) (p : Part) : Prop where
  nums : Nums .u8 w B p.A p.n p.bs
  few : p.n ≤ 10000
  byte : ∀ x ∈ p.bs, Byte x
theorem PartAt.heap {w w' : World} {B : Nat} {p : Part} (h : PartAt w B p) (e : w'.heap = w.heap) : PartAt w' B p := ⟨h.nums.heap e, h.few, h.byte⟩
theorem PartAt.below {w w' : World} {B B' : Nat} {p : Part} (h : PartAt w B p) (hb : Below B w w') (hB : B ≤ B') : PartAt w' B' p := ⟨(h.nums.below hb).more hB, h.few, h.byte⟩
/-- parts that lie in a row -/
structure Parts (w : World) (B : Nat) (P : Option Addr) (ps : List Part) : Prop where
  at_ : 0 < ps.length → ∃ b o, P = some ⟨b, o, none⟩ ∧ b < B ∧ ∀ i (h : i < ps.length), w.cell? ⟨b, o + i, none⟩ = some (.slice ps[i].A ps[i].n ps[i].c)
  all : ∀ p ∈ ps, PartAt w B p
theorem Parts.cell {w : World} {B : Nat} {P : Option Addr} {ps : List Part} (h : Parts w B P ps) {i : Nat} (hi : i < ps.length) :
    ∃ b o, P = some ⟨b, o, none⟩ ∧ b < B ∧ w.cell? ⟨b, o + i, none⟩ = some (.slice ps[i].A ps[i].n ps[i].c) ∧ PartAt w B ps[i] := by
  obtain ⟨b, o, e, hb, hc⟩ := h.at_ (by omega)
  exact ⟨b, o, e, hb, hc i hi, h.all _ (List.getElem_mem _)⟩
end Go.Proofs.Ytbhcpbihbecphaa.chkC

/-
  Rows of parts that the call lays itself; what alive does; the walk of the second statement.
-/
namespace Go.Proofs.Ytbhcpbihbecphaa.chkC
open Go.ChangeShapes Go.WideShapes Go.ChangeAt Go.RowKit
open Go.Proofs.Ytbhcpbihbecphaa.memC Go.Proofs.Ytbhcpbihbecphaa.chkM
set_option linter.unusedVariables false
theorem alloc_below (w : World) (o : Obj) : Below w.heap.size w (w.alloc o) := (Below.refl _ _).alloc (Nat.le_refl _) _
theorem alloc_size (w : World) (o : Obj) : (w.alloc o).heap.size = w.heap.size + 1 := by simp
theorem PartAt.alloc {w : World} {p : Part} (h : PartAt w w.heap.size p) (o : Obj) : PartAt (w.alloc o) (w.alloc o).heap.size p := h.below (alloc_below w o) (alloc_below w o).size
theorem parts1 {w : World} {A : Option Addr} {n c : Nat} {bs : List Int} (h : PartAt w w.heap.size ⟨A, n, c, bs⟩) (T : TypeId) :
    Parts (w.alloc (.cells #[.slice A n c] T)) (w.alloc (.cells #[.slice A n c] T)).heap.size (some ⟨w.heap.size, 0, none⟩) [⟨A, n, c, bs⟩] := by
  refine ⟨fun _ => ⟨_, 0, rfl, by rw [alloc_size]; exact Nat.lt_succ_self _, fun i hi => ?_⟩, fun p hp => ?_⟩
  · obtain rfl : i = 0 := by simpa using hi
    simp [go_sem]
  · obtain rfl := List.mem_singleton.1 hp
    exact h.alloc _
end Go.Proofs.Ytbhcpbihbecphaa.chkC

/-
  A packet's bytes: the document's.
-/
namespace Go.Proofs.Ytbhcpbihbecphaa.pkC
open Go.ChangeShapes Go.WideShapes Go.ChangeAt Go.RowKit
open Go.Proofs.Ytbhcpbihbecphaa.memC Go.Proofs.Ytbhcpbihbecphaa.genC Go.Proofs.Ytbhcpbihbecphaa.butC Go.Proofs.Ytbhcpbihbecphaa.freeC Go.Proofs.Ytbhcpbihbecphaa.adC
set_option linter.unusedVariables false
/-- the call's own bytes, and an error -/
def OwnE (w : World) (bs : List Int) (er : Int) (e : Ending) (w' : World) : Prop := ∃ A n c, e = .returned (.tuple #[.slice A n c, .int .i64 er]) ∧ Own .u8 5 w' w.heap.size (.slice A n c) bs ∧ Below w.heap.size w w'
end Go.Proofs.Ytbhcpbihbecphaa.pkC

/-
  The walk of the first statement.
-/
namespace Go.Proofs.Ytbhcpbihbecphaa.chkC
open Go.ChangeShapes Go.WideShapes Go.ChangeAt Go.RowKit
open Go.Proofs.Ytbhcpbihbecphaa.memC Go.Proofs.Ytbhcpbihbecphaa.chkM
set_option linter.unusedVariables false
theorem Parts.heap {w w' : World} {B : Nat} {P : Option Addr} {ps : List Part} (h : Parts w B P ps) (e : w'.heap = w.heap) : Parts w' B P ps :=
  ⟨fun hl => by
    obtain ⟨b, o, e1, hb, hc⟩ := h.at_ hl
    exact ⟨b, o, e1, hb, fun i hi => (World.cell?_of_block (w := w) (w' := w') (by rw [e])).trans (hc i hi)⟩, fun p hp => (h.all p hp).heap e⟩
end Go.Proofs.Ytbhcpbihbecphaa.chkC

/-
  The walk of the fourth statement.
-/
namespace Go.Proofs.Ytbhcpbihbecphaa.chkC
open Go.ChangeShapes Go.WideShapes Go.ChangeAt Go.RowKit
open Go.Proofs.Ytbhcpbihbecphaa.memC Go.Proofs.Ytbhcpbihbecphaa.chkM
set_option linter.unusedVariables false
theorem byte_info : (Try.prog.info? 5).map (fun i => (i.zero, i.size, i.bytes)) = some (some (.int .u8 0), 1, 1) := by kernel_rfl
end Go.Proofs.Ytbhcpbihbecphaa.chkC

/-
  What slices.Grow of nothing, and slices.Concat of some slices of bytes, do.
-/
namespace Go.Proofs.Ytbhcpbihbecphaa.chkC
open Go.ChangeShapes Go.WideShapes Go.ChangeAt Go.RowKit
open Go.Proofs.Ytbhcpbihbecphaa.memC Go.Proofs.Ytbhcpbihbecphaa.chkM
set_option linter.unusedVariables false
def GrowRet (w : World) (n : Nat) (e : Ending) (w' : World) : Prop :=
  ∃ c, e = .returned (.slice (some ⟨w.heap.size, 0, none⟩) 0 c) ∧ n ≤ c ∧ c ≤ maxLen ∧ Own .u8 5 w' w.heap.size (.slice (some ⟨w.heap.size, 0, none⟩) 0 c) [] ∧ Below w.heap.size w w'
theorem grow_any (n : Nat) (w : World) (h0 : 0 < n) (h1 : n ≤ 1000000) :
    Calls Try.prog 39 #[.slice none 0 0, .int .i64 n] w (GrowRet w n) := by
  obtain ⟨i0, hi0, hz0, hz1, hz2⟩ := info_parts byte_info
  have R := Go.Lib.run_append_nil_zeros (P := Try.prog) w 26 3 26 5 i0 (.int .u8 0) .i64 .i64 Try.underlying26 Try.underlying3 hi0 hz0 n h0 (by omega) (by omega) (by rw [hz2]; omega)
  have hge : n ≤ grownCap w n 0 5 := grownCap_ge w _ 0 _
  have hle : grownCap w n 0 5 ≤ maxLen := grownCap_le_maxLen w _ 0 _ (by unfold maxLen; omega)
  obtain ⟨c, hc⟩ : ∃ c, c = grownCap w n 0 5 := ⟨_, rfl⟩
  rw [← hc] at R hge hle
  obtain ⟨Z, hZ⟩ : ∃ Z, Z = (Builtin.zeroCells (Value.int .u8 0).cells n ++ Builtin.zeroCells (Value.int .u8 0).cells (c - n)) := ⟨_, rfl⟩
  rw [← hZ] at R
  have hZs : Z.size = c := by rw [hZ]; simp [size_zeroCells, Value.cells]; omega
  have O : Own .u8 5 (w.drew.alloc (.cells Z 5)) w.heap.size (.slice (some ⟨w.heap.size, 0, none⟩) 0 c) [] :=
    World.ownsRow_made w.drew Z c (Nat.le_refl _) hle (by rw [hZs]; omega)
  have B : Below w.heap.size w (w.drew.alloc (.cells Z 5)) := (Below.refl _ _).drew.alloc (Nat.le_refl _) _
  have RH := Lib.hid R
  have hn : (0 : Int) < n := by omega
  clear hc hZ R hi0 hz0 hz1 hz2 hZs
  go_enter Try.func39, Try.ntmps39
  go_wp2_with (at_builtin; refine Go.Lib.wpList_append_run _ rfl _ _ _ _ rfl _ _ rfl rfl _ _ RH.out ?_)
  go_ret
  exact ⟨c, rfl, hge, hle, O, B⟩
/-- how many bytes the slices have -/
def nsum : List Part → Nat
  | [] => 0
  | p :: r => p.n + nsum r
theorem nsum_append : ∀ (a b : List Part), nsum (a ++ b) = nsum a + nsum b
  | [], b => by simp [nsum]
  | p :: r, b => by simp only [List.cons_append, nsum, nsum_append r b]; omega
theorem nsum_snoc (ps : List Part) (k : Nat) (h : k < ps.length) : nsum (ps.take (k + 1)) = nsum (ps.take k) + ps[k].n := by
  rw [List.take_succ_eq_append_getElem h, nsum_append]; simp [nsum]
theorem nsum_take (ps : List Part) (k : Nat) : nsum (ps.take k) ≤ nsum ps := by
  have h := nsum_append (ps.take k) (ps.drop k)
  rw [List.take_append_drop] at h
  omega
/-- all their bytes -/
def catL (ps : List Part) : List Int := ps.flatMap Part.bs
theorem catL_snoc (ps : List Part) (k : Nat) (h : k < ps.length) : catL (ps.take (k + 1)) = catL (ps.take k) ++ ps[k].bs := by
  rw [List.take_succ_eq_append_getElem h, catL, List.flatMap_append]; simp [catL]
theorem catL_len {w : World} {B : Nat} : ∀ (ps : List Part), (∀ p ∈ ps, PartAt w B p) → (catL ps).length = nsum ps
  | [], _ => rfl
  | p :: r, h => by
    have h1 := (h p (by simp)).nums.len
    have h2 := catL_len r fun q hq => h q (by simp [hq])
    show (p.bs ++ catL r).length = _
    rw [List.length_append, h1, h2]; rfl
def CatRet (w : World) (T : List Int) (n : Nat) (e : Ending) (w' : World) : Prop :=
  ∃ A c, e = .returned (.slice A n c) ∧ n ≤ c ∧ c ≤ maxLen ∧ Own .u8 5 w' w.heap.size (.slice A n c) T ∧ Below w.heap.size w w'
def CatR (w wr : World) (ps : List Part) (k : Nat) (v : Value) : Prop := Own .u8 5 wr w.heap.size v (catL (ps.take k)) ∧ Below w.heap.size w wr
set_option maxRecDepth 100000 in
set_option maxHeartbeats 1000000 in
theorem concat_any (P : Option Addr) (m c n : Nat) (ps : List Part) (w : World) (hp : Parts w w.heap.size P ps) (hm : m ≤ 100) (hl : ps.length = m) (hn : nsum ps = n) (h0 : 0 < n) (h1 : n ≤ 1000000) :
    Calls Try.prog 24 #[.slice P m c] w (CatRet w (catL ps) n) := by
  have HP := Lib.hid hp
  have HL := Lib.hid hl
  have HN := Lib.hid hn
  have CL := Lib.hid (catL_len ps hp.all)
  obtain ⟨i0, hi0, hz0, hz1, hz2⟩ := info_parts byte_info
  have T1 := Lib.hid hi0; have T2 := Lib.hid hz0; have T3 := Lib.hid hz1; have T4 := Lib.hid hz2
  have hG := Lib.hid (grow_any n w h0 h1)
  clear hp hl hn hi0 hz0 hz1 hz2
  go_enter Try.func24, Try.ntmps24
  go_wp2_with fail
  go_loop [3, 11] (fun t i => ∃ k : Nat, k ≤ m ∧ i = .int .i64 k ∧ t = .int .i64 (nsum (ps.take k) : Nat)) (fun _ i => m - (intOf i).toNat)
  case atStart => exact ⟨0, Nat.zero_le _, rfl, rfl⟩
  case round =>
    obtain ⟨k, hk, rfl, rfl⟩ := hrel
    have hts := nsum_take ps k
    rw [HN.out] at hts
    by_cases hlt : k < m
    · obtain ⟨b, o, rfl, hbb, hcell, hpart⟩ := HP.out.cell (i := k) (by rw [HL.out]; exact hlt)
      have hkl : k < ps.length := by rw [HL.out]; exact hlt
      have HT := Lib.hid (nsum_snoc ps k hkl)
      generalize ps[k] = p at *
      obtain ⟨A, q, c', bs⟩ := p
      have hq := hpart.few
      simp only at hcell HT hq
      generalize nsum (ps.take k) = s at *
      go_wp2_with fail
      go_round
      case rel => exact ⟨k + 1, by omega, by go_num, by rw [HT.out]; go_num⟩
      case measure => simp [intOf]; omega
    · have e : k = m := by omega
      subst e
      have e2 : ps.take k = ps := List.take_of_length_le (by rw [HL.out]; omega)
      rw [e2, HN.out]
      clear hts e2
      go_wp2_with (go_at_call 39; ((with_reducible refine hG.out.mono ?_); rintro e w1 ⟨c1, rfl, g1, g2, O1, B1⟩))
      go_loopw [6, 27] (fun v i wr => ∃ j : Nat, j ≤ k ∧ i = .int .i64 j ∧ CatR w wr ps j v) (fun _ i _ => k - (intOf i).toNat)
      case atStart => exact ⟨0, Nat.zero_le _, rfl, O1, B1⟩
      case round =>
        obtain ⟨j, hj, rfl, O, Bw⟩ := hrel
        by_cases hlt : j < k
        · obtain ⟨b, o, rfl, hbb, hcell, hpart⟩ := HP.out.cell (i := j) (by rw [HL.out]; exact hlt)
          have hkl : j < ps.length := by rw [HL.out]; exact hlt
          have HT := Lib.hid (catL_snoc ps j hkl)
          have HS := Lib.hid (nsum_snoc ps j hkl)
          have hle := nsum_take ps (j + 1)
          have LC := Lib.hid (catL_len (ps.take j) (fun p hp => HP.out.all p (List.mem_of_mem_take hp)))
          rw [HS.out, HN.out] at hle
          generalize ps[j] = p at *
          obtain ⟨A, q, c', bs⟩ := p
          have hq := hpart.few
          simp only at hcell HT hq HS hle
          have cc : wr.cell? ⟨b, o + j, none⟩ = some (.slice A q c') := (Bw.cell (p := ⟨b, o + j, none⟩) hbb).trans hcell
          have NB := hpart.nums.below Bw
          simp only at NB
          clear hcell
          go_wp2_with (first
            | (at_builtin; (refine wpList_app _ rfl (.tmp 31) (.tmp 32) _ rfl 5 i0 _ 1 Try.underlying26 T1.out T2.out T3.out T4.out rfl w.heap.size _ (catL (ps.take j)) rfl O w.heap.size A q c' bs rfl NB (by rw [LC.out]; simp only [maxLen]; omega) (by rw [LC.out]; omega) Bw.size ?_)
               intro v' w' O' hg'
               have Bn : Below w.heap.size w w' := Below.grown Bw hg' Bw.size fun g hg => (O.blk g hg).1
               clear hg'))
          go_roundw
          case rel => exact ⟨j + 1, by omega, by go_num, by rw [CatR, HT.out]; exact ⟨O', Bn⟩⟩
          case measure => simp [intOf]; omega
        · have e : j = k := by omega
          subst e
          have e2 : ps.take j = ps := List.take_of_length_le (by rw [HL.out]; omega)
          rw [e2] at O
          obtain ⟨A', c', ev, h1', h2', N⟩ := O.form
          rw [CL.out, HN.out] at ev h1'
          subst ev
          clear e2 N
          go_wp2_with fail
          go_ret
          exact ⟨A', c', rfl, h1', h2', O, Bw⟩
end Go.Proofs.Ytbhcpbihbecphaa.chkC

/-
  Numbers and addresses at places of some bytes: the program's.
-/
namespace Go.Proofs.Ytbhcpbihbecphaa.pkC
open Go.ChangeShapes Go.WideShapes Go.ChangeAt Go.RowKit
open Go.Proofs.Ytbhcpbihbecphaa.memC Go.Proofs.Ytbhcpbihbecphaa.genC Go.Proofs.Ytbhcpbihbecphaa.butC Go.Proofs.Ytbhcpbihbecphaa.freeC Go.Proofs.Ytbhcpbihbecphaa.adC
set_option linter.unusedVariables false
/-- b[f:e] -/
theorem cut_two (A : Option Addr) (n c f e : Nat) (h1 : f ≤ e) (h2 : e ≤ c) (w : World) :
    (Instr.slice 26 (.slice A n c) (some (.int .i64 (f : Int))) (some (.int .i64 (e : Int))) none).run Try.prog w = .ok (.slice (if c = f then A else A.map (·.add f)) (e - f) (c - f)) w := by
  have k1 : (f : Int) ≤ (e : Int) := by omega
  have k2 : (e : Int) ≤ (c : Int) := by omega
  by_cases h : c = f
  · subst h
    rw [if_pos rfl]
    go_simp
  · rw [if_neg h]
    go_simp
end Go.Proofs.Ytbhcpbihbecphaa.pkC

/-
  What a header and a load tell: the program's packet.
-/
namespace Go.Proofs.Ytbhcpbihbecphaa.pkC
open Go.ChangeShapes Go.WideShapes Go.ChangeAt Go.RowKit
open Go.Proofs.Ytbhcpbihbecphaa.memC Go.Proofs.Ytbhcpbihbecphaa.genC Go.Proofs.Ytbhcpbihbecphaa.butC Go.Proofs.Ytbhcpbihbecphaa.freeC Go.Proofs.Ytbhcpbihbecphaa.adC
set_option linter.unusedVariables false
theorem and_bit_nat (n i : Nat) : n &&& 2 ^ i = 0 ↔ n.testBit i = false := by
  constructor
  · intro h
    have h2 := congrArg (fun k => Nat.testBit k i) h
    simpa [Nat.testBit_and, Nat.testBit_two_pow] using h2
  · intro h
    apply Nat.eq_of_testBit_eq
    intro j
    rw [Nat.testBit_and, Nat.testBit_two_pow, Nat.zero_testBit]
    by_cases e : i = j
    · subst e; simp [h]
    · simp [e]
theorem and_bit {x : Int} (h0 : 0 ≤ x) (h1 : x ≤ 65535) (i : Nat) (hi : i < 16) : (bits .and .u16 x (2 ^ i) == 0) = !decide (x / 2 ^ i % 2 = 1) := by
  obtain ⟨n, rfl⟩ : ∃ n : Nat, x = n := ⟨x.toNat, by omega⟩
  have hp : (2 : Int) ^ i = ((2 ^ i : Nat) : Int) := by simp
  have hlt : 2 ^ i < 65536 := by
    have := Nat.pow_lt_pow_right (a := 2) (by decide) hi
    simpa using this
  rw [hp, Go.u16_and_nat n (2 ^ i) (by omega) hlt]
  have ht : n.testBit i = decide (n / 2 ^ i % 2 = 1) := Nat.testBit_eq_decide_div_mod_eq
  have hz := and_bit_nat n i
  rw [ht] at hz
  have e2 : (n : Int) / ((2 ^ i : Nat) : Int) % 2 = ((n / 2 ^ i % 2 : Nat) : Int) := by omega
  rw [e2]
  generalize n &&& 2 ^ i = u at *
  generalize n / 2 ^ i % 2 = v at *
  by_cases h : v = 1
  · have hu : ¬ u = 0 := fun e => by have := hz.1 e; simp [h] at this
    rw [decide_eq_true (by omega)]
    exact beq_eq_false_iff_ne.2 (by omega)
  · have hu : u = 0 := hz.2 (by simp [h])
    rw [decide_eq_false (by omega), hu]; rfl
end Go.Proofs.Ytbhcpbihbecphaa.pkC

/-
  How an argument that is a packet is opened.
-/
namespace Go.Proofs.Ytbhcpbihbecphaa.pkC
open Go.ChangeShapes Go.WideShapes Go.ChangeAt Go.RowKit
open Go.Proofs.Ytbhcpbihbecphaa.memC Go.Proofs.Ytbhcpbihbecphaa.genC Go.Proofs.Ytbhcpbihbecphaa.adC
set_option linter.unusedVariables false
theorem is_pkt : Try.prog.underlying 28 = some (.struct (Try.prog.fieldsOf 28)) := by simp [Program.fieldsOf, Try.underlying28]
theorem pkt_load : ((Try.prog.fieldsOf 28)[8]?).map (fun f => (f.type, f.offset)) = some (26, 40) := by kernel_rfl
theorem open_pkt {H : Type} {enc : TypeId × Value → H} {w : World} {base : Nat} {spare : Nat → Bool} {held : Bool} {r : Reach} {b0 : Nat} {v : Value} {d : DataW H} {ps : List MemPlace} (hsp : ∀ b, spare b = true)
    (hval : Value.okWide Try.prog w r b0 28 v) (hd : DataW.Trod enc Try.prog w base spare held 28 v d ps) :
    ∃ (p : Pkt) (A : Option Addr) (n c : Nat) (zs : List Int), v = .agg (pktV p A n c) ∧ p.Ok ∧ n ≤ c ∧ c ≤ 9223372036854775807 ∧ Nums .u8 w w.heap.size A n zs ∧ ∀ x ∈ zs, Byte x := by
  obtain ⟨f8, h8, he⟩ := Option.map_eq_some_iff.1 pkt_load
  obtain ⟨e1, e2⟩ := Prod.mk.inj he
  exact open_packet (tb := 4) (ti := 5) (t32 := 25) (tn := 3) (ts := 26) is_pkt (by kernel_rfl) h8 e1 e2 (by kernel_rfl) (by kernel_rfl) Try.underlying4 Try.underlying5 Try.underlying25 Try.underlying3 Try.underlying26 (by kernel_rfl) hsp hval hd
end Go.Proofs.Ytbhcpbihbecphaa.pkC

/-
  Rows of slices of bytes: parts, that came in or that the call lays.
-/
namespace Go.Proofs.Ytbhcpbihbecphaa.partsC
open Go.ChangeShapes Go.WideShapes Go.ChangeAt Go.RowKit
open Go.Proofs.Ytbhcpbihbecphaa.memC Go.Proofs.Ytbhcpbihbecphaa.genC Go.Proofs.Ytbhcpbihbecphaa.butC
set_option linter.unusedVariables false
/-- a part: a slice, and what it holds -/
structure Part where
  A : Option Addr
  n : Nat
  c : Nat
  bs : List Int
/-- a part that lies in memory below B -/
structure PartAt (w : World) (B : Nat) (p : Part) : Prop where
  nums : Nums .u8 w B p.A p.n p.bs
  few : p.n ≤ 10000
  byte : ∀ x ∈ p.bs, Byte x
  cap : p.n ≤ p.c
  max : p.c ≤ 9223372036854775807
theorem PartAt.heap {w w' : World} {B : Nat} {p : Part} (h : PartAt w B p) (e : w'.heap = w.heap) : PartAt w' B p := ⟨h.nums.heap e, h.few, h.byte, h.cap, h.max⟩
theorem PartAt.below {w w' : World} {B B' : Nat} {p : Part} (h : PartAt w B p) (hb : Below B w w') (hB : B ≤ B') : PartAt w' B' p := ⟨(h.nums.below hb).more hB, h.few, h.byte, h.cap, h.max⟩
/-- parts that lie in a row -/
structure Parts (w : World) (B : Nat) (P : Option Addr) (ps : List Part) : Prop where
  at_ : 0 < ps.length → ∃ b o, P = some ⟨b, o, none⟩ ∧ b < B ∧ ∀ i (h : i < ps.length), w.cell? ⟨b, o + i, none⟩ = some (.slice ps[i].A ps[i].n ps[i].c)
  all : ∀ p ∈ ps, PartAt w B p
theorem Parts.cell {w : World} {B : Nat} {P : Option Addr} {ps : List Part} (h : Parts w B P ps) {i : Nat} (hi : i < ps.length) :
    ∃ b o, P = some ⟨b, o, none⟩ ∧ b < B ∧ w.cell? ⟨b, o + i, none⟩ = some (.slice ps[i].A ps[i].n ps[i].c) ∧ PartAt w B ps[i] := by
  obtain ⟨b, o, e, hb, hc⟩ := h.at_ (by omega)
  exact ⟨b, o, e, hb, hc i hi, h.all _ (List.getElem_mem _)⟩
theorem Parts.below {w w' : World} {B B' : Nat} {P : Option Addr} {ps : List Part} (h : Parts w B P ps) (hb : Below B w w') (hB : B ≤ B') : Parts w' B' P ps :=
  ⟨fun hl => by
    obtain ⟨b, o, e1, hbb, hc⟩ := h.at_ hl
    exact ⟨b, o, e1, by omega, fun i hi => (hb.cell (p := ⟨b, o + i, none⟩) hbb).trans (hc i hi)⟩, fun p hp => (h.all p hp).below hb hB⟩
theorem Parts.heap {w w' : World} {B : Nat} {P : Option Addr} {ps : List Part} (h : Parts w B P ps) (e : w'.heap = w.heap) : Parts w' B P ps :=
  ⟨fun hl => by
    obtain ⟨b, o, e1, hb, hc⟩ := h.at_ hl
    exact ⟨b, o, e1, hb, fun i hi => (World.cell?_of_block (w := w) (w' := w') (by rw [e])).trans (hc i hi)⟩, fun p hp => (h.all p hp).heap e⟩
/-- how many bytes they have -/
def nsum : List Part → Nat
  | [] => 0
  | p :: r => p.n + nsum r
theorem nsum_append : ∀ (a b : List Part), nsum (a ++ b) = nsum a + nsum b
  | [], b => by simp [nsum]
  | p :: r, b => by rw [List.cons_append, nsum, nsum, nsum_append r b]; omega
theorem nsum_snoc (ps : List Part) (k : Nat) (h : k < ps.length) : nsum (ps.take (k + 1)) = nsum (ps.take k) + ps[k].n := by
  rw [List.take_succ_eq_append_getElem h, nsum_append]; simp [nsum]
theorem nsum_take (ps : List Part) (k : Nat) : nsum (ps.take k) ≤ nsum ps := by
  have h := nsum_append (ps.take k) (ps.drop k)
  rw [List.take_append_drop] at h
  omega
/-- all their bytes -/
def catL (ps : List Part) : List Int := ps.flatMap Part.bs
theorem catL_snoc (ps : List Part) (k : Nat) (h : k < ps.length) : catL (ps.take (k + 1)) = catL (ps.take k) ++ ps[k].bs := by
  rw [List.take_succ_eq_append_getElem h, catL, List.flatMap_append]; simp [catL]
theorem catL_len {w : World} {B : Nat} : ∀ (ps : List Part), (∀ p ∈ ps, PartAt w B p) → (catL ps).length = nsum ps
  | [], _ => rfl
  | p :: r, h => by
    have h1 := (h p (by simp)).nums.len
    have h2 := catL_len r fun q hq => h q (by simp [hq])
    show (p.bs ++ catL r).length = _
    rw [List.length_append, h1, h2]; rfl
theorem catL_byte {w : World} {B : Nat} {ps : List Part} (h : ∀ p ∈ ps, PartAt w B p) : ∀ x ∈ catL ps, Byte x := by
  intro x hx
  obtain ⟨p, hp, hx2⟩ := List.mem_flatMap.1 hx
  exact (h p hp).byte x hx2
theorem PartAt.alloc {w : World} {p : Part} (h : PartAt w w.heap.size p) (o : Obj) : PartAt (w.alloc o) (w.alloc o).heap.size p := h.below (alloc_below w o) (alloc_below w o).size
theorem parts1 {w : World} {A : Option Addr} {n c : Nat} {bs : List Int} (h : PartAt w w.heap.size ⟨A, n, c, bs⟩) (T : TypeId) :
    Parts (w.alloc (.cells #[.slice A n c] T)) (w.alloc (.cells #[.slice A n c] T)).heap.size (some ⟨w.heap.size, 0, none⟩) [⟨A, n, c, bs⟩] := by
  refine ⟨fun _ => ⟨_, 0, rfl, by rw [alloc_size]; exact Nat.lt_succ_self _, fun i hi => ?_⟩, fun p hp => ?_⟩
  · obtain rfl : i = 0 := by simpa using hi
    simp [go_sem]
  · obtain rfl := List.mem_singleton.1 hp
    exact h.alloc _
theorem parts2 {w : World} {A A' : Option Addr} {n c n' c' : Nat} {bs bs' : List Int} (h : PartAt w w.heap.size ⟨A, n, c, bs⟩) (h' : PartAt w w.heap.size ⟨A', n', c', bs'⟩) (T : TypeId) :
    Parts (w.alloc (.cells #[.slice A n c, .slice A' n' c'] T)) (w.alloc (.cells #[.slice A n c, .slice A' n' c'] T)).heap.size (some ⟨w.heap.size, 0, none⟩) [⟨A, n, c, bs⟩, ⟨A', n', c', bs'⟩] := by
  refine ⟨fun _ => ⟨_, 0, rfl, by rw [alloc_size]; exact Nat.lt_succ_self _, fun i hi => ?_⟩, fun p hp => ?_⟩
  · simp only [List.length_cons, List.length_nil] at hi
    match i, hi with
    | 0, _ => simp [go_sem]
    | 1, _ => simp [go_sem]
  · rcases List.mem_cons.1 hp with rfl | hp
    · exact h.alloc _
    · obtain rfl := List.mem_singleton.1 hp
      exact h'.alloc _
theorem parts3 {w : World} {A A' A2 : Option Addr} {n c n' c' n2 c2 : Nat} {bs bs' bs2 : List Int} (h : PartAt w w.heap.size ⟨A, n, c, bs⟩) (h' : PartAt w w.heap.size ⟨A', n', c', bs'⟩) (h2 : PartAt w w.heap.size ⟨A2, n2, c2, bs2⟩) (T : TypeId) :
    Parts (w.alloc (.cells #[.slice A n c, .slice A' n' c', .slice A2 n2 c2] T)) (w.alloc (.cells #[.slice A n c, .slice A' n' c', .slice A2 n2 c2] T)).heap.size (some ⟨w.heap.size, 0, none⟩) [⟨A, n, c, bs⟩, ⟨A', n', c', bs'⟩, ⟨A2, n2, c2, bs2⟩] := by
  refine ⟨fun _ => ⟨_, 0, rfl, by rw [alloc_size]; exact Nat.lt_succ_self _, fun i hi => ?_⟩, fun p hp => ?_⟩
  · simp only [List.length_cons, List.length_nil] at hi
    match i, hi with
    | 0, _ => simp [go_sem]
    | 1, _ => simp [go_sem]
    | 2, _ => simp [go_sem]
  · rcases List.mem_cons.1 hp with rfl | hp
    · exact h.alloc _
    · rcases List.mem_cons.1 hp with rfl | hp
      · exact h'.alloc _
      · obtain rfl := List.mem_singleton.1 hp
        exact h2.alloc _
/-- parts that came in, of any length -/
structure Came (w : World) (B : Nat) (P : Option Addr) (ps : List Part) : Prop where
  at_ : 0 < ps.length → ∃ b o, P = some ⟨b, o, none⟩ ∧ b < B ∧ ∀ i (h : i < ps.length), w.cell? ⟨b, o + i, none⟩ = some (.slice ps[i].A ps[i].n ps[i].c)
  nums : ∀ p ∈ ps, Nums .u8 w B p.A p.n p.bs
  byte : ∀ p ∈ ps, ∀ x ∈ p.bs, Byte x
  size : ∀ p ∈ ps, p.n ≤ p.c ∧ p.c ≤ 9223372036854775807
theorem Came.parts {w : World} {B : Nat} {P : Option Addr} {ps : List Part} (h : Came w B P ps) {N : Nat} (hN : N ≤ 10000) (hf : ∀ i (hi : i < ps.length), ps[i].n ≤ N) : Parts w B P ps :=
  ⟨h.at_, fun p hp => by
    obtain ⟨i, hi, rfl⟩ := List.getElem_of_mem hp
    exact ⟨h.nums _ hp, by have := hf i hi; omega, h.byte _ hp, (h.size _ hp).1, (h.size _ hp).2⟩⟩
def FewR (N : Nat) (ps : List Part) (k : Nat) : Prop := ∀ i (hi : i < ps.length), i < k → ps[i].n ≤ N
/-- slices of bytes that came in -/
theorem open_parts {H : Type} {enc : TypeId × Value → H} {P : Program} {w : World} {base : Nat} {held : Bool} {r : Reach} {b0 : Nat} {t e q : TypeId} {v : Value} {d : DataW H} {pl : List MemPlace}
    (ht : P.underlying t = some (.slice e)) (he : P.underlying e = some (.slice q)) (hq : P.underlying q = some (.int .u8)) (ce : P.cellsOf e = 1) (cq : P.cellsOf q = 1) (hval : Value.okWide P w r b0 t v) (hd : DataW.Trod enc P w base (fun _ => true) held t v d pl) :
    ∃ A m c ps, v = .slice A m c ∧ m ≤ 9223372036854775807 ∧ ps.length = m ∧ Came w w.heap.size A ps := by
  obtain ⟨a, len, cap, rfl⟩ := okWide_slice ht hval
  obtain ⟨fuel, hf⟩ := hd
  rcases Go.Deep.open_int_rows ht he hq ce cq hf with ⟨hcs, _⟩ | ⟨x, l, c, A, L, C, Z, hcs, _, hl, hm, _, hr⟩
  · simp [Value.cells] at hcs
    obtain ⟨rfl, rfl, rfl⟩ := hcs
    exact ⟨none, 0, 0, [], rfl, Nat.zero_le _, rfl, ⟨fun h => absurd h (Nat.lt_irrefl 0), by simp, by simp, by simp⟩⟩
  · simp [Value.cells] at hcs
    obtain ⟨rfl, rfl, rfl⟩ := hcs
    unfold maxLen at hm hr
    have spot : ∀ {y : Addr} {u : Value}, w.cell? y = some u → y = ⟨y.block, y.off, none⟩ := fun {y u} h => by
      obtain ⟨b, o, s⟩ := y
      have : s = none := by simpa using World.cell?_spot h
      subst this; rfl
    refine ⟨some x, len, cap, (List.range len).map fun i => ⟨A i, L i, C i, (Z i).take (L i)⟩, rfl, by omega, by simp, ?_, ?_, ?_, ?_⟩
    · intro h0
      have h0' : 0 < len := by simpa using h0
      obtain ⟨hc, _⟩ := hr 0 (by omega)
      have e0 : x.add 0 = x := by unfold Addr.add; simp
      rw [e0] at hc
      have ex := spot hc
      obtain ⟨b, o, s⟩ := x
      simp at ex
      subst ex
      refine ⟨b, o, rfl, World.block_lt_of_cell? _ _ hc, fun i hi => ?_⟩
      have hi' : i < len := by simpa using hi
      have h2 := (hr i (by omega)).1
      rw [memC.add_plain] at h2
      simpa using h2
    · intro p hp
      obtain ⟨i, hi, rfl⟩ := List.mem_map.1 hp
      have hi' : i < len := List.mem_range.1 hi
      obtain ⟨_, h1, h2, h3, _, h5, h6⟩ := hr i (by omega)
      refine ⟨by simp; omega, fun hn => ?_⟩
      simp only at hn
      cases hA : A i with
      | none => have := h5 hA; omega
      | some y =>
        obtain ⟨_, hc⟩ := h6 y hA
        have h0 := hc 0 (by omega)
        have e0 : y.add 0 = y := by unfold Addr.add; simp
        rw [e0] at h0
        have ey := spot h0
        obtain ⟨b, o, s⟩ := y
        simp at ey
        subst ey
        refine ⟨b, o, rfl, World.block_lt_of_cell? _ _ h0, fun j hj => ?_⟩
        simp only at hj
        have h7 := hc j (by omega)
        rw [memC.add_plain] at h7
        rw [h7]
        simp [List.getD_eq_getElem?_getD, hj]
    · intro p hp y hy
      obtain ⟨i, hi, rfl⟩ := List.mem_map.1 hp
      have hi' : i < len := List.mem_range.1 hi
      obtain ⟨_, _, _, _, h4, _⟩ := hr i (by omega)
      exact bounds_u8 (h4 y (List.mem_of_mem_take hy))
    · intro p hp
      obtain ⟨i, hi, rfl⟩ := List.mem_map.1 hp
      have hi' : i < len := List.mem_range.1 hi
      obtain ⟨_, h1, h2, _⟩ := hr i (by omega)
      exact ⟨h1, by show C i ≤ _; omega⟩
end Go.Proofs.Ytbhcpbihbecphaa.partsC

/-
  AES in memory: arrays of bytes as lists of numbers.
-/
namespace Go.Proofs.Ytbhcpbihbecphaa.aesC
open Go.ChangeShapes Go.WideShapes Go.ChangeAt Go.RowKit
open Go.Proofs.Ytbhcpbihbecphaa.memC Go.Proofs.Ytbhcpbihbecphaa.genC
set_option linter.unusedVariables false
/-- an array of bytes as a value -/
def vec (xs : List Nat) : Array Value := (xs.map fun n : Nat => Value.int .u8 (n : Int)).toArray
/-- block g holds the bytes xs, and nothing else -/
structure Bl (T : TypeId) (w : World) (g : Nat) (xs : List Nat) : Prop where
  row : w.heap[g]? = some (.cells (vec xs) T (0, 0))
section
variable {T : TypeId} {w w' : World} {g : Nat} {xs ys : List Nat}
theorem Bl.heap (h : Bl T w g xs) (e : w'.heap = w.heap) : Bl T w' g xs := ⟨by rw [e]; exact h.row⟩
theorem Bl.setRow (h : Bl T w g xs) : Bl T (w.setRow g (vec ys)) g ys := ⟨setRow_heap _ _ _ _ _ _ h.row⟩
end
theorem below_setRow {B k : Nat} {w w' : World} (h : Below B w w') (hk : B ≤ k) (cs : Array Value) : Below B w (w'.setRow k cs) :=
  h.trans ⟨rfl, rfl, rfl, by simp, fun z hz => setRow_other _ _ _ _ (by omega)⟩
/-- bytes -/
def BY (xs : List Nat) : Prop := ∀ x ∈ xs, x < 256
theorem BY.map {f : Nat → Nat} {n : Nat} (h : ∀ i, i < n → f i < 256) : BY ((List.range n).map f) := by
  intro x hx
  obtain ⟨i, hi, rfl⟩ := List.mem_map.1 hx
  exact h i (List.mem_range.1 hi)
def zs (n : Nat) : List Nat := List.replicate n 0
section
variable {xs ys : List Nat} {j k : Nat}
end
end Go.Proofs.Ytbhcpbihbecphaa.aesC

/-
  AES: a block turned by another one.
-/
namespace Go.Proofs.Ytbhcpbihbecphaa.aesC
open Go.ChangeShapes Go.WideShapes Go.ChangeAt Go.RowKit
open Go.Proofs.Ytbhcpbihbecphaa.memC Go.Proofs.Ytbhcpbihbecphaa.genC
set_option linter.unusedVariables false
/-- the blocks that a call lays: three of 16 bytes -/
structure B3 (w : World) (a b c : List Nat) (wr : World) : Prop where
  b0 : Bl 22 wr w.heap.size a
  b1 : Bl 22 wr (w.heap.size + 1) b
  b2 : Bl 22 wr (w.heap.size + 1 + 1) c
  bel : Below w.heap.size w wr
section
variable {w wr w' : World} {a b c : List Nat}
theorem B3.heap (B : B3 w a b c wr) (e : w'.heap = wr.heap) (e1 : w'.os = wr.os) (e2 : w'.tape = wr.tape) (e3 : w'.output = wr.output) : B3 w a b c w' :=
  ⟨B.b0.heap e, B.b1.heap e, B.b2.heap e, B.bel.trans ⟨e1, e2, e3, by rw [e]; exact Nat.le_refl _, fun k _ => by rw [e]⟩⟩
end
end Go.Proofs.Ytbhcpbihbecphaa.aesC

/-
  AES: the round key behind one.
-/
namespace Go.Proofs.Ytbhcpbihbecphaa.aesC
open Go.ChangeShapes Go.WideShapes Go.ChangeAt Go.RowKit
open Go.Proofs.Ytbhcpbihbecphaa.memC Go.Proofs.Ytbhcpbihbecphaa.genC Go.Proofs.Ytbhcpbihbecphaa.freeC
set_option linter.unusedVariables false
/-- the key and the result -/
structure NG (w : World) (k : List Nat) (wr : World) : Prop where
  b0 : Bl 22 wr w.heap.size k
  b1 : Bl 22 wr (w.heap.size + 1) (zs 16)
  bel : Below w.heap.size w wr
section
variable {w wr w' : World} {g : Nat} {c k : List Nat}
end
end Go.Proofs.Ytbhcpbihbecphaa.aesC

/-
  AES: the code's multiply.
-/
namespace Go.Proofs.Ytbhcpbihbecphaa.aesC
open Go.ChangeShapes Go.WideShapes Go.ChangeAt Go.RowKit
open Go.Proofs.Ytbhcpbihbecphaa.memC Go.Proofs.Ytbhcpbihbecphaa.genC Go.Proofs.Ytbhcpbihbecphaa.freeC
set_option linter.unusedVariables false
theorem NG.heap {w wr w' : World} {k : List Nat} (B : NG w k wr) (e : w'.heap = wr.heap) (e1 : w'.os = wr.os) (e2 : w'.tape = wr.tape) (e3 : w'.output = wr.output) : NG w k w' :=
  ⟨B.b0.heap e, B.b1.heap e, B.bel.trans ⟨e1, e2, e3, by rw [e]; exact Nat.le_refl _, fun k _ => by rw [e]⟩⟩
end Go.Proofs.Ytbhcpbihbecphaa.aesC
