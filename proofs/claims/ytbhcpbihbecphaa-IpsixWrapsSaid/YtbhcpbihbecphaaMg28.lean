/-
  5 texts of a proof, joined.
-/
import Derived.Test.YtbhcpbihbecphaaMg26
import Derived.Test.YtbhcpbihbecphaaMg27
import Derived.Test.YtbhcpbihbecphaaMg15
import Derived.Test.YtbhcpbihbecphaaMg13
import Derived.Lib.SlBytesConst
import Derived.Deep.OwnRows
import Derived.Test.YtbhcpbihbecphaaMg23

/-
  The statements' probe: a packet laid, wrapped, and read.
-/
namespace Go.Proofs.Ytbhcpbihbecphaa.sxC
open Go.ChangeShapes Go.WideShapes Go.ChangeAt Go.RowKit
open Go.Proofs.Ytbhcpbihbecphaa.memC Go.Proofs.Ytbhcpbihbecphaa.genC Go.Proofs.Ytbhcpbihbecphaa.butC Go.Proofs.Ytbhcpbihbecphaa.freeC Go.Proofs.Ytbhcpbihbecphaa.adC Go.Proofs.Ytbhcpbihbecphaa.pkC
set_option linter.unusedVariables false
/-- the packet of the statements' probe -/
def kPk : Pkt := ⟨true, zs 16, true, zs 16, 6, 2, 0, true, false, 0⟩
theorem kPk_ok : kPk.Ok := ⟨zs_len 16, zs_len 16, fun x hx => by rw [List.eq_of_mem_replicate hx]; unfold Byte; omega, fun x hx => by rw [List.eq_of_mem_replicate hx]; unfold Byte; omega, by unfold Byte kPk; decide, by unfold Byte kPk; decide, by unfold kPk; decide, by unfold kPk; decide⟩
theorem kPk_may : mayS kPk 2 = true := by decide +kernel
def kX : List Int := [97, 98]
theorem kX_byte : ∀ x ∈ kX, Byte x := by unfold kX Byte; simp
def kB : List Int := layL kPk 2 kX
theorem kB_len : kB.length = 42 := layL_len kPk_ok rfl kPk_may
theorem kB_byte : ∀ x ∈ kB, Byte x := layL_byte kPk_ok kX_byte
theorem kB_read : psE kB = 0 ∧ pkOf kB = kPk ∧ (hdOf kB).rest = kX := by
  have h := parse_lay (p := kPk) (xs := kX) (n := 2) kPk_ok rfl kPk_may []
  rw [List.append_nil] at h
  exact h
theorem kB_six : kB.getD 6 0 = (pkOf kB).proto := by rw [kB_read.2.1]; unfold kB layL; rw [if_pos kPk_may]; rfl
def kL : List Int := zs 6
theorem kL_byte : ∀ x ∈ kL, Byte x := fun x hx => by rw [List.eq_of_mem_replicate hx]; unfold Byte; omega
theorem kW : wrE kB 60 kL = 0 := wrE_4 (by decide) (by decide) (by decide) kB_read.1 kB_six (by rw [kB_read.2.2]; decide)
def kC : List Int := wrL kB 60 kL
theorem kC_x : wrX kB 60 kL = kC := by unfold wrX kC; rw [if_pos kW]
theorem kC_len : kC.length = 50 := by unfold kC; rw [wrL_len kW, kB_len]; rfl
theorem kC_byte : ∀ x ∈ kC, Byte x := by rw [← kC_x]; exact wrX_byte kB_byte (by unfold Byte; decide) kL_byte
theorem kC_read : psE kC = 0 ∧ psP kC = kPk ∧ psX kC = kX := by
  obtain ⟨h1, h2, h3⟩ := wrap_read kB_byte kW
  have h1' : psE kC = 0 := h1
  refine ⟨h1, ?_, ?_⟩
  · unfold psP; rw [if_pos h1']; exact h2.trans kB_read.2.1
  · unfold psX; rw [if_pos h1']; exact h3.trans kB_read.2.2
theorem made6 : madeCells #[.int .u8 0] 6 = (kL.map (Value.int .u8)).toArray := by kernel_rfl
theorem kA_built : Try.prog.built 24 [(0, .bool true)] = some (adrV true (zs 16)) := by kernel_rfl
theorem kPk_built (A : Option Addr) (n c : Nat) : Try.prog.built 28 [(0, .agg (adrV true (zs 16))), (1, .agg (adrV true (zs 16))), (2, .int .u8 6), (3, .int .u8 2), (5, .bool true), (8, .slice A n c)] = some (pktV kPk A n c) := by kernel_rfl
set_option maxRecDepth 100000 in
set_option maxHeartbeats 4000000 in
theorem alive_any (w : World) : Calls Try.prog 10 #[] w (Ret w (.bool true)) := by
  have hzv := zeroPkt
  have hcv : (convert 26 26 (.slice (some ⟨w.heap.size, 0, none⟩) 2 2)).run Try.prog (w.alloc (.cells #[.int .u8 97, .int .u8 98] 5)) =
      .ok (.slice (some ⟨w.heap.size, 0, none⟩) 2 2) (w.alloc (.cells #[.int .u8 97, .int .u8 98] 5 (2, 3))) :=
    Lib.run_convert_bytes_const w 26 5 #[.int .u8 97, .int .u8 98] 2 2 Try.underlying26 Try.underlying5
  obtain ⟨W1, hW1⟩ : ∃ W1, W1 = w.alloc (.cells #[.int .u8 97, .int .u8 98] 5 (2, 3)) := ⟨_, rfl⟩
  have e1 : W1.heap.size = w.heap.size + 1 := by rw [hW1]; exact alloc_size _ _
  have NX := Lib.hid (show Nums .u8 W1 W1.heap.size (some ⟨w.heap.size, 0, none⟩) 2 kX by
    refine ⟨rfl, fun _ => ⟨_, 0, rfl, by rw [e1]; exact Nat.lt_succ_self _, fun i hi => ?_⟩⟩
    rw [hW1, cell_of_row _ w.heap.size (0 + i) _ _ (2, 3) (heap_alloc_new w _)]
    rcases (show i = 0 ∨ i = 1 by omega) with rfl | rfl <;> rfl)
  have HB1 := Lib.hid (show Below w.heap.size w W1 by rw [hW1]; exact alloc_below _ _)
  rw [← hW1] at hcv
  obtain ⟨A, hA⟩ : ∃ A : Option Addr, A = some ⟨w.heap.size, 0, none⟩ := ⟨_, rfl⟩
  have KA := Lib.hid kA_built
  have KB := Lib.hid (kPk_built A 2 2)
  have UI := Lib.hid (pkC kPk_ok A 2 2).info
  have ON := Lib.hid (pkt_one kPk A 2 2)
  have ZI := Lib.hid (show (pktV zPkt none 0 0).size = (pktV kPk A 2 2).size by rw [(pkC zPkt_ok none 0 0).size, (pkC kPk_ok A 2 2).size])
  have LC := Lib.hid (fun w' (h : Below W1.heap.size W1 w') => clay_any kPk A 2 2 kX w' kPk_ok ((hA ▸ NX.out).below h |>.more h.size) kX_byte (by decide) (fun _ => by decide))
  have eE : layE kPk 2 = 0 := by unfold layE; rw [if_pos kPk_may]
  rw [eE] at LC
  have LC : Hid (∀ w' (h : Below W1.heap.size W1 w'), Calls Try.prog 11 #[.agg (pktV kPk A 2 2)] w' (OwnE w' kB 0)) := Lib.hid LC.out
  have WC := Lib.hid (fun w' A c A2 c2 (hb : Nums .u8 w' w'.heap.size A 42 kB) (hc : 42 ≤ c ∧ c ≤ 9223372036854775807) (h2 : Nums .u8 w' w'.heap.size A2 6 kL) => (show Calls Try.prog 20 #[.slice A 42 c, .int .u8 60, .slice A2 6 c2] w' (fun e w'' => ∃ A n c, e = .returned (.tuple #[.slice A n c, .int .i64 0]) ∧ Own .u8 5 w'' w'.heap.size (.slice A n c) kC ∧ Below w'.heap.size w' w'') by
    have h := cwrap_any A 42 c kB 60 A2 6 c2 kL w' hb kB_byte (by unfold Byte; decide) h2 kL_byte (by decide) (by decide) hc.1 hc.2
    unfold WrR at h
    rw [kW, kC_x] at h
    exact h))
  have PC := Lib.hid (fun w' A c (hb : Nums .u8 w' w'.heap.size A 50 kC) => (show Calls Try.prog 15 #[.slice A 50 c] w' (fun e w'' => ∃ A n c, e = .returned (.tuple #[.agg (pktV kPk A n c), .int .i64 0]) ∧ Nums .u8 w'' w''.heap.size A n kX ∧ Below w'.heap.size w' w'') by
    have h := cparse_any A 50 c kC w' hb kC_byte (by decide)
    obtain ⟨h1, h2, h3⟩ := kC_read
    unfold PsR at h
    rw [h1, h2, h3] at h
    exact h))
  have SC := Lib.hid (fun w' B m d (hx : Nums .u8 w' w'.heap.size A 2 kX) (hy : Nums .u8 w' w'.heap.size B m kX) => (show Calls Try.prog 19 #[.agg (pktV kPk A 2 2), .agg (pktV kPk B m d)] w' (Ret w' (.bool true)) by
    have h := rsame_any kPk kPk A B 2 2 m d kX kX w' kPk_ok kPk_ok hx hy kX_byte kX_byte
    rw [sameB_iff.2 ⟨rfl, rfl⟩] at h
    exact h))
  have BL := Lib.hid kB_len
  have CL := Lib.hid kC_len
  have PK := Lib.hid (fun B m d => And.intro (pkC kPk_ok B m d).info (And.intro (show (pktV zPkt none 0 0).size = (pktV kPk B m d).size by rw [(pkC zPkt_ok none 0 0).size, (pkC kPk_ok B m d).size]) (pkt_one kPk B m d)))
  generalize kB = KBs at *
  generalize kC = KCs at *
  generalize hZ : pktV zPkt none 0 0 = Z at *
  generalize hAV : adrV true (zs 16) = AV at *
  have HA := Lib.hid hA
  generalize hCP : pktV kPk A 2 2 = CP at *
  have HN1 := Lib.hid (show (W1.alloc (.cells Z 28)).heap[W1.heap.size]? = some (.cells Z 28 (0, 0)) from heap_alloc_new _ _)
  clear eE hZ hA hW1 e1 hCP hAV
  go_enter Try.func10, Try.ntmps10
  go_upto_region 2 with (first
    | (refine wpList_builtN rfl 24 _ rfl [(0, .bool true)] (by kernel_rfl) AV KA.out ?_)
    | (refine wpList_builtN rfl 28 _ rfl [(0, .agg AV), (1, .agg AV), (2, .int .u8 6), (3, .int .u8 2), (5, .bool true), (8, .slice A 2 2)] (by rw [HA.out]; kernel_rfl) CP KB.out ?_)
    | (refine wpList_store_row rfl 28 (.tmp 1) (.tmp 12) rfl W1.heap.size CP rfl rfl _ _ HN1.out UI.out ZI.out ON.out ?_))
  rw [World.setRow_alloc_new]
  have HB_W2 := Lib.hid (show Below w.heap.size w (W1.alloc (.cells CP 28)) from HB1.out.trans ((alloc_below _ _).mono HB1.out.size))
  have HC_W2 := Lib.hid (show Below W1.heap.size W1 (W1.alloc (.cells CP 28)) from alloc_below _ _)
  have RP_W2 := Lib.hid (show (W1.alloc (.cells CP 28)).heap[W1.heap.size]? = some (.cells CP 28 (0, 0)) from heap_alloc_new _ _)
  have NX2 := Lib.hid (show Nums .u8 (W1.alloc (.cells CP 28)) (W1.alloc (.cells CP 28)).heap.size A 2 kX by rw [HA.out]; exact (NX.out.below (alloc_below _ _)).more (alloc_below _ _).size)
  clear HN1 hcv
  generalize hg1 : W1.heap.size = g1 at *
  generalize W1.alloc (.cells CP 28) = W2 at *
  clear hg1 NX
  go_upto_region 3 with (first
    | (refine wpList_load_row rfl 28 (.tmp 1) rfl g1 rfl _ _ _ _ RP_W2.out Try.underlying28 rfl UI.out ?_)
    | (go_at_call 11; (refine (LC.out _ HC_W2.out).mono ?_); rintro e W3 ⟨Ab, nb, cb, rfl, Ob, BB⟩
       have hnb := Ob.len
       rw [BL.out] at hnb
       subst hnb
       have Nb := Lib.hid Ob.nums
       have CAPb := Lib.hid (own_cap Ob)
       have HB_W3 := Lib.hid (HB_W2.out.trans (BB.mono HB_W2.out.size))
       have RP_W3 := Lib.hid (show W3.heap[g1]? = some (.cells CP 28 (0, 0)) by rw [BB.block _ (lt_of_row RP_W2.out)]; exact RP_W2.out)
       have NX3 := Lib.hid ((NX2.out.below BB).more BB.size)
       clear BB Ob NX2 RP_W2 HB_W2 HC_W2))
  obtain ⟨M, hM⟩ : ∃ M, M = (kL.map (Value.int .u8)).toArray := ⟨_, rfl⟩
  have hmk : ∀ w, (Instr.makeSlice 26 (.int .i64 6) (.int .i64 6)).run Try.prog w = .ok (.slice (some ⟨w.heap.size, 0, none⟩) 6 6) (w.alloc (.cells M 5)) := fun w => by
    rw [hM, ← made6]
    exact run_make_row' (P := Try.prog) 26 5 (.int .u8 0) 1 Try.underlying26 byte_inf rfl .i64 .i64 6 (by decide) (by decide) w
  obtain ⟨W4, hW4⟩ : ∃ W, W = W3.alloc (.cells M 5) := ⟨_, rfl⟩
  have B4 : Below W3.heap.size W3 W4 := by rw [hW4]; exact alloc_below _ _
  have N6 := Lib.hid (show Nums .u8 W4 W4.heap.size (some ⟨W3.heap.size, 0, none⟩) 6 kL by rw [hW4]; exact (lit_nums .u8 W3 kL 5 M hM 6 rfl).more (by rw [alloc_size]; exact Nat.le_refl _))
  have Nb4 := Lib.hid ((Nb.out.below B4).more B4.size)
  have HB_W4 := Lib.hid (HB_W3.out.trans (B4.mono HB_W3.out.size))
  have RP_W4 := Lib.hid (show W4.heap[g1]? = some (.cells CP 28 (0, 0)) by rw [B4.block _ (lt_of_row RP_W3.out)]; exact RP_W3.out)
  have NX4 := Lib.hid ((NX3.out.below B4).more B4.size)
  clear B4 Nb HB_W3 RP_W3 NX3 hM
  go_upto_region 4 with (first
    | (rw [← hW4]; go_at_call 20; (refine (WC.out _ _ _ _ _ Nb4.out CAPb.out N6.out).mono ?_); rintro e W5 ⟨Ac, nc, cc, rfl, Oc, BB⟩
       have hnc := Oc.len
       rw [CL.out] at hnc
       subst hnc
       have Nc := Lib.hid Oc.nums
       have HB_W5 := Lib.hid (HB_W4.out.trans (BB.mono HB_W4.out.size))
       have RP_W5 := Lib.hid (show W5.heap[g1]? = some (.cells CP 28 (0, 0)) by rw [BB.block _ (lt_of_row RP_W4.out)]; exact RP_W4.out)
       have NX5 := Lib.hid ((NX4.out.below BB).more BB.size)
       clear BB Oc NX4 RP_W4 HB_W4 Nb4 N6))
  clear hW4 hmk
  go_upto_region 5 with (first
    | (go_at_call 15; (refine (PC.out _ _ _ Nc.out).mono ?_); rintro e v6 ⟨Aq, nq, cq, rfl, Nq, BB⟩
       have PQ := Lib.hid (PK.out Aq nq cq)
       have NQ6 := Lib.hid Nq
       have HB_v6 := Lib.hid (HB_W5.out.trans (BB.mono HB_W5.out.size))
       have RP_v6 := Lib.hid (show v6.heap[g1]? = some (.cells CP 28 (0, 0)) by rw [BB.block _ (lt_of_row RP_W5.out)]; exact RP_W5.out)
       have NX6 := Lib.hid ((NX5.out.below BB).more BB.size)
       have HN_v6 := Lib.hid (show (v6.alloc (.cells Z 28)).heap[v6.heap.size]? = some (.cells Z 28 (0, 0)) from heap_alloc_new _ _)
       clear BB Nq NX5 RP_W5 HB_W5 Nc)
    | (refine wpList_store_row rfl 28 (.tmp 6) (.tmp 27) rfl v6.heap.size (pktV kPk Aq nq cq) rfl rfl _ _ HN_v6.out PQ.out.1 PQ.out.2.1 PQ.out.2.2 ?_))
  rw [World.setRow_alloc_new]
  have BA := Lib.hid (alloc_below v6 (.cells (pktV kPk Aq nq cq) 28))
  have HB_W7 := Lib.hid (HB_v6.out.trans (BA.out.mono HB_v6.out.size))
  have RP_W7 := Lib.hid (show (v6.alloc (.cells (pktV kPk Aq nq cq) 28)).heap[g1]? = some (.cells CP 28 (0, 0)) by rw [BA.out.block _ (lt_of_row RP_v6.out)]; exact RP_v6.out)
  have RQ_W7 := Lib.hid (show (v6.alloc (.cells (pktV kPk Aq nq cq) 28)).heap[v6.heap.size]? = some (.cells (pktV kPk Aq nq cq) 28 (0, 0)) from heap_alloc_new _ _)
  have S7 := Lib.hid (SC.out _ _ _ cq ((NX6.out.below BA.out).more BA.out.size) ((NQ6.out.below BA.out).more BA.out.size))
  clear HB_v6 BA RP_v6 NX6 NQ6 HN_v6 PC WC LC SC hzv
  generalize v6.heap.size = g2 at *
  generalize v6.alloc (.cells (pktV kPk Aq nq cq) 28) = W7 at *
  have UQ := Lib.hid PQ.out.1
  generalize pktV kPk Aq nq cq = CQ at *
  go_wp2_with (first
    | (refine wpList_load_rowG (by kernel_rfl) 28 (.tmp 1) rfl g1 (by kernel_rfl) _ _ _ _ RP_W7.out Try.underlying28 rfl UI.out ?_)
    | (refine wpList_load_rowG (by kernel_rfl) 28 (.tmp 6) rfl g2 (by kernel_rfl) _ _ _ _ RQ_W7.out Try.underlying28 rfl UQ.out ?_)
    | (go_at_call 19; (refine S7.out.mono ?_); rintro e W8 ⟨rfl, BB⟩
       have HB_W8 := Lib.hid (HB_W7.out.trans (BB.mono HB_W7.out.size))
       clear BB))
  go_ret
  exact ⟨rfl, HB_W8.out⟩
end Go.Proofs.Ytbhcpbihbecphaa.sxC

/-
  The walk of IpsixLays.
-/
namespace Go.Proofs.Ytbhcpbihbecphaa.sxC
open Go.ChangeShapes Go.WideShapes Go.ChangeAt Go.RowKit
open Go.Proofs.Ytbhcpbihbecphaa.memC Go.Proofs.Ytbhcpbihbecphaa.genC Go.Proofs.Ytbhcpbihbecphaa.butC Go.Proofs.Ytbhcpbihbecphaa.freeC Go.Proofs.Ytbhcpbihbecphaa.adC Go.Proofs.Ytbhcpbihbecphaa.pkC
set_option linter.unusedVariables false
def farB (n : Nat) : Bool := decide (2000 < n) && decide (n ≤ 65527)
theorem far_may {p : Pkt} {n : Nat} (h : farB n = false) (hm : mayS p n = true) : n ≤ 2000 := by
  obtain ⟨_, _, _, h4, _, h6, _⟩ := mayS_parts hm
  unfold farB at h
  by_cases h1 : 2000 < n
  · rw [decide_eq_true h1, decide_eq_true (by omega)] at h; cases h
  · omega
theorem far_any (A : Option Addr) (n c : Nat) (w : World) (hn : n ≤ 9223372036854775807) :
    Calls Try.prog 9 #[.slice A n c] w fun e w' => e = .returned (.bool (farB n)) ∧ w' = w := by
  by_cases h1 : 2000 < n
  · have q1 : (2000 : Int) < (n : Int) := by omega
    by_cases h2 : n ≤ 65527
    · have q2 : (n : Int) ≤ 65527 := by omega
      have hv : farB n = true := by unfold farB; simp [h1, h2]
      rw [hv]
      clear hv h1 h2
      go_enter Try.func9, Try.ntmps9
      go_wp2
      go_ret
      exact ⟨rfl, rfl⟩
    · have q2 : ¬ (n : Int) ≤ 65527 := by omega
      have q3 : decide ((n : Int) ≤ 65527) = false := decide_eq_false q2
      have hv : farB n = false := by unfold farB; simp [h2]
      rw [hv]
      clear hv h1 h2
      go_enter Try.func9, Try.ntmps9
      go_wp2
      go_ret
      exact ⟨rfl, rfl⟩
  · have q1 : ¬ (2000 : Int) < (n : Int) := by omega
    have q3 : decide ((2000 : Int) < (n : Int)) = false := decide_eq_false q1
    have hv : farB n = false := by unfold farB; simp [h1]
    rw [hv]
    clear hv h1
    go_enter Try.func9, Try.ntmps9
    go_wp2
    go_ret
    exact ⟨rfl, rfl⟩
theorem seq_self {P : Program} {o : Oper} {a : Act} {w : World} {T : TypeId} {s x : Operand} {S : ByteArray} {R : TypeId} (ho : o.op = .binOp .eql T s x R) (hs : a.eval s = .string S) (hx : a.eval x = .string S) : (execOp a.eval o).run P w = .ok (.value (.bool true)) w :=
  seq_run ho hs hx (by simp)
def saV (g0 : Nat) (CP : Array Value) (A1 A2 : Option Addr) (n1 c1 n2 c2 : Nat) (er : Int) (my : Bool) (SB : ByteArray) : Nat → Value → World → Prop
  | 0, v, _ => v = .slice A1 n1 c1
  | 1, v, _ => v = .string SB
  | 2, v, _ => v = .slice A2 n2 c2
  | 3, v, _ => v = .string SB
  | 4, v, _ => v = .bool true
  | 5, v, _ => v = .bool true
  | 6, v, _ => v = .int .i64 er
  | 7, v, _ => v = .int .i64 er
  | 8, v, _ => v = .bool true
  | 9, v, _ => v = .bool true
  | 10, v, _ => v = .bool true
  | 11, v, _ => v = .agg CP
  | 12, v, _ => v = .bool my
  | 13, v, _ => v = .agg CP
  | 14, v, _ => v = .bool my
  | 15, v, _ => v = .bool true
  | 16, v, _ => v = .bool true
  | 17, v, _ => v = .bool true
  | 18, v, _ => v = .bool true
  | 19, v, _ => v = .bool true
  | 20, v, _ => v = .bool true
  | _, _, _ => True
theorem saV.keep (g0 : Nat) (CP : Array Value) (A1 A2 : Option Addr) (n1 c1 n2 c2 : Nat) (er : Int) (my : Bool) (SB : ByteArray) (i : Nat) (v : Value) (w w' : World) (hb : Below w.heap.size w w') (h : saV g0 CP A1 A2 n1 c1 n2 c2 er my SB i v w) : saV g0 CP A1 A2 n1 c1 n2 c2 er my SB i v w' := by
  unfold saV at h ⊢
  split at h <;> exact h
def saT : List (Option Nat) := [none, none, some 20, none, none, none, none, none, none, none, none, none, none, none, none, none, none, none, none, none, none, some 0, some 1, some 2, some 3, some 4, some 5, some 6, some 7, some 8, some 9, some 10, some 11, some 12, some 13, some 14, some 15, some 16, some 17, some 18, some 19]
set_option maxRecDepth 100000 in
set_option maxHeartbeats 4000000 in
theorem lays_walk (p : Pkt) (A : Option Addr) (n c : Nat) (xs : List Int) (w : World) (hp : p.Ok) (hx : Nums .u8 w w.heap.size A n xs) (yx : ∀ x ∈ xs, Byte x)
    (hn : n ≤ 9223372036854775807) :
    Calls Try.prog 3 #[.agg (pktV p A n c)] w (Ret w (.bool true)) := by
  obtain ⟨W, hW⟩ : ∃ W, W = w.alloc (.cells (pktV p A n c) 28) := ⟨_, rfl⟩
  have R0_W := Lib.hid (show W.heap[w.heap.size]? = some (.cells (pktV p A n c) 28 (0, 0)) by rw [hW]; exact heap_alloc_new w _)
  have HB_W := Lib.hid (show Below w.heap.size w W by rw [hW]; exact alloc_below _ _)
  have k0 := PkC.cell R0_W.out (pkC hp A n c).load
  have IP := Lib.hid (pkC hp A n c).info
  have LC := Lib.hid (fun w' (h : Below w.heap.size w w') (hfar : farB n = false) => clay_any p A n c xs w' hp ((hx.below h).more h.size) yx hn (fun hm => by have := far_may hfar hm; omega))
  have LD := Lib.hid (fun w' (h : Below w.heap.size w w') (hfar : farB n = false) => rlay_any p A n c xs w' hp ((hx.below h).more h.size) yx hn (fun hm => by have := far_may hfar hm; omega))
  have F0 := Lib.hid (fun w' => far_any A n c w' hn)
  have CM := Lib.hid (fun w' => cmay_any p A n c w' hp hn)
  have DM := Lib.hid (fun w' => rmay_any p A n c w' hp hn)
  have YB := Lib.hid (layL_byte hp (n := n) yx)
  generalize mayS p n = my at *
  generalize layE p n = er at *
  obtain ⟨BS, hBS⟩ : ∃ L, L = layL p n xs := ⟨_, rfl⟩
  rw [← hBS] at LC LD YB
  generalize hf0 : farB n = f0 at *
  generalize pktV p A n c = CP at *
  clear hp hx yx hBS hf0
  go_enter Try.func3, Try.ntmps3
  go_upto_region 1 with fail
  rw [← hW]
  clear hW
  cases f0
  rotate_left
  · go_wp2_with (first
      | (go_at_call 9; (with_reducible refine (F0.out _).mono ?_); rintro e w2 ⟨rfl, hw⟩; obtain rfl := hw.symm)
      | (go_at_call 10; (refine (alive_any _).mono ?_); rintro e w5 ⟨rfl, BB⟩
         have HB_w5 := Lib.hid (HB_W.out.trans (BB.mono HB_W.out.size))
         clear BB))
    go_ret
    exact ⟨rfl, HB_w5.out⟩
  go_upto_region 3 with (first
    | (go_at_call 9; (with_reducible refine (F0.out _).mono ?_); rintro e w2 ⟨rfl, hw⟩; obtain rfl := hw.symm))
  go_upto_region 4 with (first
    | (refine wpList_load_rowG (by kernel_rfl) 28 (.tmp 1) rfl w.heap.size (by kernel_rfl) _ _ _ _ R0_W.out Try.underlying28 rfl IP.out ?_)
    | (go_at_call 11; (refine (LC.out _ HB_W.out (by trivial)).mono ?_); rintro e W2 ⟨A1, n1, c1, rfl, O1, BB⟩
       have N1 := Lib.hid O1.nums
       have HB_W2 := Lib.hid (HB_W.out.trans (BB.mono HB_W.out.size))
       have R0_W2 := Lib.hid (show W2.heap[w.heap.size]? = some (.cells CP 28 (0, 0)) by rw [BB.block _ (lt_of_row R0_W.out)]; exact R0_W.out)
       clear BB O1))
  clear k0 R0_W HB_W
  go_upto_region 5 with (first
    | (refine wpList_load_rowG (by kernel_rfl) 28 (.tmp 1) rfl w.heap.size (by kernel_rfl) _ _ _ _ R0_W2.out Try.underlying28 rfl IP.out ?_)
    | (go_at_call 12; (refine (LD.out _ HB_W2.out (by trivial)).mono ?_); rintro e V ⟨A2, n2, c2, rfl, O2, BB⟩
       have N1v := Lib.hid ((N1.out.below BB).more BB.size)
       have N2v := Lib.hid O2.nums
       have HB_V := Lib.hid (HB_W2.out.trans (BB.mono HB_W2.out.size))
       have R0_V := Lib.hid (show V.heap[w.heap.size]? = some (.cells CP 28 (0, 0)) by rw [BB.block _ (lt_of_row R0_W2.out)]; exact R0_W2.out)
       clear BB O2))
  clear N1 R0_W2 HB_W2
  obtain ⟨SB, hSB⟩ : ∃ S, S = strOfNums BS := ⟨_, rfl⟩
  have CV1 := Lib.hid (fun w' (h : Gr V w') => (show (convert 26 9 (.slice A1 n1 c1)).run Try.prog w' = .ok (.string SB) w' by rw [hSB]; exact run_string (N1v.out.below h) c1 26 5 9 Try.underlying26 Try.underlying5 Try.underlying9))
  have CV2 := Lib.hid (fun w' (h : Gr V w') => (show (convert 26 9 (.slice A2 n2 c2)).run Try.prog w' = .ok (.string SB) w' by rw [hSB]; exact run_string (N2v.out.below h) c2 26 5 9 Try.underlying26 Try.underlying5 Try.underlying9))
  clear LC LD hSB N1v N2v
  refine with_act fun a0 ha0 => ?_
  have hl : saT.length = a0.tmps.size := by rw [ha0]; rfl
  have k1 : a0.tmps[1]?.getD undef = .pointer (some ⟨w.heap.size, 0, none⟩) := by rw [ha0]; rfl
  have k3 : a0.tmps[3]?.getD undef = .slice A1 n1 c1 := by rw [ha0]; rfl
  have k4 : a0.tmps[4]?.getD undef = .int .i64 er := by rw [ha0]; rfl
  have k5 : a0.tmps[5]?.getD undef = .slice A2 n2 c2 := by rw [ha0]; rfl
  have k6 : a0.tmps[6]?.getD undef = .int .i64 er := by rw [ha0]; rfl
  refine wp_region_vals (by kernel_rfl) saT (by kernel_rfl) (by kernel_rfl) hl (fun i => if i = 20 then .bool false else undef) (by rw [ha0]; rfl) (Gr V) (saV w.heap.size CP A1 A2 n1 c1 n2 c2 er my SB) (gr_drew _) (saV.keep _ _ _ _ _ _ _ _ _ _ _) ⟨?_, ?_, ?_, ?_, ?_, ?_, ?_, ?_, ?_, ?_, ?_, ?_, ?_, ?_, ?_, ?_, ?_, ?_, ?_, ?_, ?_, trivial⟩ ?_
  · refine step_plain [] (by kernel_rfl) rfl fun us w' hG hV => ?_
    have o3 := (frame_old2 (us := us) (a := a0) (show (saT[3]?).join = none from rfl)).trans k3
    generalize frame saT a0 us = fr at *
    exact val_ok (v := .slice A1 n1 c1) (w' := w') (by go_simp) hG (Below.refl _ _) rfl
  · refine step_plain [0] (by kernel_rfl) rfl fun us w' hG hV => ?_
    have e0 : us 0 = .slice A1 n1 c1 := hV 0 (by simp)
    have v0 := (frame_at2 (us := us) hl (show (saT[21]?).join = some 0 from rfl)).trans e0
    have hcv := CV1.out w' hG
    generalize frame saT a0 us = fr at *
    exact val_ok (v := .string SB) (w' := w') (by go_simp) hG (Below.refl _ _) rfl
  · refine step_plain [] (by kernel_rfl) rfl fun us w' hG hV => ?_
    have o5 := (frame_old2 (us := us) (a := a0) (show (saT[5]?).join = none from rfl)).trans k5
    generalize frame saT a0 us = fr at *
    exact val_ok (v := .slice A2 n2 c2) (w' := w') (by go_simp) hG (Below.refl _ _) rfl
  · refine step_plain [2] (by kernel_rfl) rfl fun us w' hG hV => ?_
    have e2 : us 2 = .slice A2 n2 c2 := hV 2 (by simp)
    have v2 := (frame_at2 (us := us) hl (show (saT[23]?).join = some 2 from rfl)).trans e2
    have hcv := CV2.out w' hG
    generalize frame saT a0 us = fr at *
    exact val_ok (v := .string SB) (w' := w') (by go_simp) hG (Below.refl _ _) rfl
  · refine step_plain [1, 3] (by kernel_rfl) rfl fun us w' hG hV => ?_
    have e1 : us 1 = .string SB := hV 1 (by simp)
    have v1 := (frame_at2 (us := us) hl (show (saT[22]?).join = some 1 from rfl)).trans e1
    have e3 : us 3 = .string SB := hV 3 (by simp)
    have v3 := (frame_at2 (us := us) hl (show (saT[24]?).join = some 3 from rfl)).trans e3
    generalize frame saT a0 us = fr at *
    exact val_ok (v := .bool true) (w' := w') (seq_self (S := SB) (a := fr) rfl (by simpa only [Act.eval, Array.getD_eq_getD_getElem?] using v1) (by simpa only [Act.eval, Array.getD_eq_getD_getElem?] using v3)) hG (Below.refl _ _) rfl
  · refine step_plain [4] (by kernel_rfl) rfl fun us w' hG hV => ?_
    have e4 : us 4 = .bool true := hV 4 (by simp)
    have v4 := (frame_at2 (us := us) hl (show (saT[25]?).join = some 4 from rfl)).trans e4
    generalize frame saT a0 us = fr at *
    exact val_ok (v := .bool true) (w' := w') (by go_simp) hG (Below.refl _ _) rfl
  · refine step_guard [5] (by kernel_rfl) (j := 5) (t := 26) (b := true) rfl (by simp) rfl hl rfl (fun v w h => h) fun us w' hG hV => ?_
    have o4 := (frame_old2 (us := us) (a := a0) (show (saT[4]?).join = none from rfl)).trans k4
    generalize frame saT a0 us = fr at *
    exact val_ok (v := .int .i64 er) (w' := w') (by go_simp) hG (Below.refl _ _) rfl
  · refine step_guard [5] (by kernel_rfl) (j := 5) (t := 26) (b := true) rfl (by simp) rfl hl rfl (fun v w h => h) fun us w' hG hV => ?_
    have o6 := (frame_old2 (us := us) (a := a0) (show (saT[6]?).join = none from rfl)).trans k6
    generalize frame saT a0 us = fr at *
    exact val_ok (v := .int .i64 er) (w' := w') (by go_simp) hG (Below.refl _ _) rfl
  · refine step_guard [5, 6, 7] (by kernel_rfl) (j := 5) (t := 26) (b := true) rfl (by simp) rfl hl rfl (fun v w h => h) fun us w' hG hV => ?_
    have e6 : us 6 = .int .i64 er := hV 6 (by simp)
    have v6 := (frame_at2 (us := us) hl (show (saT[27]?).join = some 6 from rfl)).trans e6
    have e7 : us 7 = .int .i64 er := hV 7 (by simp)
    have v7 := (frame_at2 (us := us) hl (show (saT[28]?).join = some 7 from rfl)).trans e7
    generalize frame saT a0 us = fr at *
    exact val_ok (v := .bool true) (w' := w') (by go_simp) hG (Below.refl _ _) rfl
  · refine step_plain [5, 8] (by kernel_rfl) rfl fun us w' hG hV => ?_
    have e5 : us 5 = .bool true := hV 5 (by simp)
    have v5 := (frame_at2 (us := us) hl (show (saT[26]?).join = some 5 from rfl)).trans e5
    have e8 : us 8 = .bool true := hV 8 (by simp)
    have v8 := (frame_at2 (us := us) hl (show (saT[29]?).join = some 8 from rfl)).trans e8
    generalize frame saT a0 us = fr at *
    exact val_ok (v := .bool true) (w' := w') (by go_simp) hG (Below.refl _ _) rfl
  · refine step_plain [9] (by kernel_rfl) rfl fun us w' hG hV => ?_
    have e9 : us 9 = .bool true := hV 9 (by simp)
    have v9 := (frame_at2 (us := us) hl (show (saT[30]?).join = some 9 from rfl)).trans e9
    generalize frame saT a0 us = fr at *
    exact val_ok (v := .bool true) (w' := w') (by go_simp) hG (Below.refl _ _) rfl
  · refine step_guard [10] (by kernel_rfl) (j := 10) (t := 31) (b := true) rfl (by simp) rfl hl rfl (fun v w h => h) fun us w' hG hV => ?_
    have o1 := (frame_old2 (us := us) (a := a0) (show (saT[1]?).join = none from rfl)).trans k1
    have hg1 := hG.row R0_V.out
    generalize frame saT a0 us = fr at *
    exact load_ok 28 1 rfl (w.heap.size) o1 _ _ (0, 0) _ hg1 Try.underlying28 rfl IP.out hG rfl
  · refine step_guard [10, 11] (by kernel_rfl) (j := 10) (t := 31) (b := true) rfl (by simp) rfl hl rfl (fun v w h => h) fun us w' hG hV => ?_
    have e11 : us 11 = .agg CP := hV 11 (by simp)
    have v11 := (frame_at2 (us := us) hl (show (saT[32]?).join = some 11 from rfl)).trans e11
    generalize frame saT a0 us = fr at *
    exact call_ok (f := 13) (args := #[.agg CP]) (by go_simp) ((CM.out w').mono fun e w'' h => ⟨_, h.1, hG.below h.2, h.2, rfl⟩)
  · refine step_guard [10] (by kernel_rfl) (j := 10) (t := 31) (b := true) rfl (by simp) rfl hl rfl (fun v w h => h) fun us w' hG hV => ?_
    have o1 := (frame_old2 (us := us) (a := a0) (show (saT[1]?).join = none from rfl)).trans k1
    have hg1 := hG.row R0_V.out
    generalize frame saT a0 us = fr at *
    exact load_ok 28 1 rfl (w.heap.size) o1 _ _ (0, 0) _ hg1 Try.underlying28 rfl IP.out hG rfl
  · refine step_guard [10, 13] (by kernel_rfl) (j := 10) (t := 31) (b := true) rfl (by simp) rfl hl rfl (fun v w h => h) fun us w' hG hV => ?_
    have e13 : us 13 = .agg CP := hV 13 (by simp)
    have v13 := (frame_at2 (us := us) hl (show (saT[34]?).join = some 13 from rfl)).trans e13
    generalize frame saT a0 us = fr at *
    exact call_ok (f := 14) (args := #[.agg CP]) (by go_simp) ((DM.out w').mono fun e w'' h => ⟨_, h.1, hG.below h.2, h.2, rfl⟩)
  · refine step_guard [10, 12, 14] (by kernel_rfl) (j := 10) (t := 31) (b := true) rfl (by simp) rfl hl rfl (fun v w h => h) fun us w' hG hV => ?_
    have e12 : us 12 = .bool my := hV 12 (by simp)
    have v12 := (frame_at2 (us := us) hl (show (saT[33]?).join = some 12 from rfl)).trans e12
    have e14 : us 14 = .bool my := hV 14 (by simp)
    have v14 := (frame_at2 (us := us) hl (show (saT[35]?).join = some 14 from rfl)).trans e14
    generalize frame saT a0 us = fr at *
    exact val_ok (v := .bool true) (w' := w') (by go_simp) hG (Below.refl _ _) rfl
  · refine step_plain [10, 15] (by kernel_rfl) rfl fun us w' hG hV => ?_
    have e10 : us 10 = .bool true := hV 10 (by simp)
    have v10 := (frame_at2 (us := us) hl (show (saT[31]?).join = some 10 from rfl)).trans e10
    have e15 : us 15 = .bool true := hV 15 (by simp)
    have v15 := (frame_at2 (us := us) hl (show (saT[36]?).join = some 15 from rfl)).trans e15
    generalize frame saT a0 us = fr at *
    exact val_ok (v := .bool true) (w' := w') (by go_simp) hG (Below.refl _ _) rfl
  · refine step_plain [16] (by kernel_rfl) rfl fun us w' hG hV => ?_
    have e16 : us 16 = .bool true := hV 16 (by simp)
    have v16 := (frame_at2 (us := us) hl (show (saT[37]?).join = some 16 from rfl)).trans e16
    generalize frame saT a0 us = fr at *
    exact val_ok (v := .bool true) (w' := w') (by go_simp) hG (Below.refl _ _) rfl
  · refine step_guard [17] (by kernel_rfl) (j := 17) (t := 38) (b := true) rfl (by simp) rfl hl rfl (fun v w h => h) fun us w' hG hV => ?_
    generalize frame saT a0 us = fr at *
    exact call_ok (f := 10) (args := #[]) (by go_simp) ((alive_any w').mono fun e w'' h => ⟨_, h.1, hG.below h.2, h.2, rfl⟩)
  · refine step_plain [17, 18] (by kernel_rfl) rfl fun us w' hG hV => ?_
    have e17 : us 17 = .bool true := hV 17 (by simp)
    have v17 := (frame_at2 (us := us) hl (show (saT[38]?).join = some 17 from rfl)).trans e17
    have e18 : us 18 = .bool true := hV 18 (by simp)
    have v18 := (frame_at2 (us := us) hl (show (saT[39]?).join = some 18 from rfl)).trans e18
    generalize frame saT a0 us = fr at *
    exact val_ok (v := .bool true) (w' := w') (by go_simp) hG (Below.refl _ _) rfl
  · refine step_plain [19] (by kernel_rfl) rfl fun us w' hG hV => ?_
    have e19 : us 19 = .bool true := hV 19 (by simp)
    have v19 := (frame_at2 (us := us) hl (show (saT[40]?).join = some 19 from rfl)).trans e19
    generalize frame saT a0 us = fr at *
    exact val_ok (v := .bool true) (w' := w') (by go_simp) hG (Below.refl _ _) rfl
  · intro us w' hG hV
    have eL : us 20 = .bool true := hV 20 (by decide)
    subst ha0
    simp only [frame, saT, fill]
    rw [eL]
    go_wp2_with fail
    go_ret
    exact ⟨rfl, HB_V.out.trans (hG.mono HB_V.out.size)⟩
end Go.Proofs.Ytbhcpbihbecphaa.sxC

/-
  The walk of IpsixBack.
-/
namespace Go.Proofs.Ytbhcpbihbecphaa.sxC
open Go.ChangeShapes Go.WideShapes Go.ChangeAt Go.RowKit
open Go.Proofs.Ytbhcpbihbecphaa.memC Go.Proofs.Ytbhcpbihbecphaa.genC Go.Proofs.Ytbhcpbihbecphaa.butC Go.Proofs.Ytbhcpbihbecphaa.freeC Go.Proofs.Ytbhcpbihbecphaa.adC Go.Proofs.Ytbhcpbihbecphaa.pkC
set_option linter.unusedVariables false
set_option maxRecDepth 100000 in
set_option maxHeartbeats 4000000 in
theorem back_walk (p : Pkt) (A : Option Addr) (n c : Nat) (xs : List Int) (A2 : Option Addr) (m c2 : Nat) (ys : List Int) (w : World) (hp : p.Ok) (hx : Nums .u8 w w.heap.size A n xs) (yx : ∀ x ∈ xs, Byte x)
    (hy : Nums .u8 w w.heap.size A2 m ys) (yy : ∀ x ∈ ys, Byte x) (hn : n ≤ 9223372036854775807) (hm : m ≤ 9223372036854775807) :
    Calls Try.prog 6 #[.agg (pktV p A n c), .slice A2 m c2] w (Ret w (.bool true)) := by
  have hzv := zeroPkt
  obtain ⟨i0, hi0, hz0, hz1, hz2⟩ := info_parts byte_inf
  have T1 := Lib.hid hi0; have T2 := Lib.hid hz0; have T3 := Lib.hid hz1; have T4 := Lib.hid hz2
  obtain ⟨W, hW⟩ : ∃ W, W = w.alloc (.cells (pktV p A n c) 28) := ⟨_, rfl⟩
  have R0_W := Lib.hid (show W.heap[w.heap.size]? = some (.cells (pktV p A n c) 28 (0, 0)) by rw [hW]; exact heap_alloc_new w _)
  have HB_W := Lib.hid (show Below w.heap.size w W by rw [hW]; exact alloc_below _ _)
  have k0 := PkC.cell R0_W.out (pkC hp A n c).load
  have IP := Lib.hid (pkC hp A n c).info
  have LC0 := Lib.hid (fun w' (h : Below w.heap.size w w') (hfar : farB n = false) => clay_any p A n c xs w' hp ((hx.below h).more h.size) yx hn (fun hm => by have := far_may hfar hm; omega))
  have F0 := Lib.hid (fun w' => far_any A n c w' hn)
  have CM := Lib.hid (fun w' => cmay_any p A n c w' hp hn)
  have hxl := hx.len
  have hyl := hy.len
  by_cases hfar : farB n = true
  · rw [hfar] at F0
    generalize pktV p A n c = CP at *
    clear hp hx hy yx yy hi0 hz0 hz1 hz2 hxl hyl hfar
    go_enter Try.func6, Try.ntmps6
    go_upto_region 1 with fail
    rw [← hW]
    clear hW
    go_wp2_with (first
      | (go_at_call 9; (refine (F0.out _).mono ?_); rintro e w2 ⟨rfl, hw⟩; obtain rfl := hw.symm)
      | (go_at_call 10; (refine (alive_any _).mono ?_); rintro e w5 ⟨rfl, BB⟩
         have HB_w5 := Lib.hid (HB_W.out.trans (BB.mono HB_W.out.size))
         clear BB))
    go_ret
    exact ⟨rfl, HB_w5.out⟩
  have hfar' : farB n = false := by cases h : farB n <;> simp_all
  have LC := Lib.hid (fun w' (h : Below w.heap.size w w') => LC0.out w' h hfar')
  clear LC0
  rw [hfar'] at F0
  by_cases hm2 : 2000 < m
  · have q2 : (2000 : Int) < (m : Int) := by omega
    generalize pktV p A n c = CP at *
    clear hp hx hy yx yy hi0 hz0 hz1 hz2 hxl hyl hfar hfar' hm2
    go_enter Try.func6, Try.ntmps6
    go_upto_region 1 with fail
    rw [← hW]
    clear hW
    go_wp2_with (first
      | (go_at_call 9; (refine (F0.out _).mono ?_); rintro e w2 ⟨rfl, hw⟩; obtain rfl := hw.symm)
      | (go_at_call 10; (refine (alive_any _).mono ?_); rintro e w5 ⟨rfl, BB⟩
         have HB_w5 := Lib.hid (HB_W.out.trans (BB.mono HB_W.out.size))
         clear BB))
    go_ret
    exact ⟨rfl, HB_w5.out⟩
  have q2 : decide ((2000 : Int) < (m : Int)) = false := decide_eq_false (by omega)
  by_cases hmay : mayS p n = true
  rotate_left
  · have hmay' : mayS p n = false := by cases h : mayS p n <;> simp_all
    have ev : layL p n xs = [] := by unfold layL; rw [hmay']; rfl
    have ee : layE p n = 1 := by unfold layE; rw [hmay']; rfl
    rw [ev, ee] at LC
    rw [hmay'] at CM
    generalize pktV p A n c = CP at *
    clear hp hx hy yx yy hi0 hz0 hz1 hz2 hxl hyl hfar hfar' hm2 hmay hmay' ev ee
    go_enter Try.func6, Try.ntmps6
    go_upto_region 1 with fail
    rw [← hW]
    clear hW
    go_upto_region 3 with (first
      | (go_at_call 9; (refine (F0.out _).mono ?_); rintro e w2 ⟨rfl, hw⟩; obtain rfl := hw.symm))
    go_upto_region 4 with (first
      | (refine wpList_load_rowG (by kernel_rfl) 28 (.tmp 2) rfl w.heap.size (by kernel_rfl) _ _ _ _ R0_W.out Try.underlying28 rfl IP.out ?_)
      | (go_at_call 11; (refine (LC.out _ HB_W.out).mono ?_); rintro e W2 ⟨A1, n1, c1, rfl, O1, BB⟩
         have hn1 := O1.len
         simp only [List.length_nil] at hn1
         subst hn1
         have HB_W2 := Lib.hid (HB_W.out.trans (BB.mono HB_W.out.size))
         have R0_W2 := Lib.hid (show W2.heap[w.heap.size]? = some (.cells CP 28 (0, 0)) by rw [BB.block _ (lt_of_row R0_W.out)]; exact R0_W.out)
         clear BB O1))
    go_wp2_with (first
      | (refine wpList_load_rowG (by kernel_rfl) 28 (.tmp 2) rfl w.heap.size (by kernel_rfl) _ _ _ _ R0_W2.out Try.underlying28 rfl IP.out ?_)
      | (go_at_call 13; (refine (CM.out _).mono ?_); rintro e w4 ⟨rfl, BB⟩
         have HB_w4 := Lib.hid (HB_W2.out.trans (BB.mono HB_W2.out.size))
         clear BB)
      | (go_at_call 10; (refine (alive_any _).mono ?_); rintro e w5 ⟨rfl, BB⟩
         have HB_w5 := Lib.hid (HB_w4.out.trans (BB.mono HB_w4.out.size))
         clear BB))
    go_ret
    exact ⟨rfl, HB_w5.out⟩
  have hn2 : n ≤ 2000 := far_may hfar' hmay
  have ee : layE p n = 0 := by unfold layE; rw [if_pos hmay]
  rw [ee] at LC
  have hbl := layL_len hp hxl hmay
  have hpl := parse_lay (xs := xs) hp hxl hmay ys
  have hby : ∀ x ∈ layL p n xs ++ ys, Byte x := fun x h => by
    rcases List.mem_append.1 h with h | h
    · exact layL_byte hp yx x h
    · exact yy x h
  have PC := Lib.hid (fun w' A n' c (hb : Nums .u8 w' w'.heap.size A n' (layL p n xs ++ ys)) (hn : n' ≤ 9000) => (show Calls Try.prog 15 #[.slice A n' c] w' (fun e w'' => ∃ A n c, e = .returned (.tuple #[.agg (pktV p A n c), .int .i64 0]) ∧ Nums .u8 w'' w''.heap.size A n xs ∧ Below w'.heap.size w' w'') by
    have h := cparse_any A n' c _ w' hb hby hn
    obtain ⟨h1, h2, h3⟩ := hpl
    unfold PsR psP psX at h
    rw [h1, h2, h3] at h
    exact h))
  have SC := Lib.hid (fun w' B m d (h : Below w.heap.size w w') (hy : Nums .u8 w' w'.heap.size B m xs) => (show Calls Try.prog 19 #[.agg (pktV p A n c), .agg (pktV p B m d)] w' (Ret w' (.bool true)) by
    have h := rsame_any p p A B n c m d xs xs w' hp hp ((hx.below h).more h.size) hy yx yx
    rw [sameB_iff.2 ⟨rfl, rfl⟩] at h
    exact h))
  have PK := Lib.hid (fun B m d => And.intro (pkC hp B m d).info (And.intro (show (pktV zPkt none 0 0).size = (pktV p B m d).size by rw [(pkC zPkt_ok none 0 0).size, (pkC hp B m d).size]) (pkt_one p B m d)))
  have HY := Lib.hid (fun w' (h : Below w.heap.size w w') => (hy.below h).more h.size)
  have BL := Lib.hid hbl
  have LL := Lib.hid (show (layL p n xs ++ ys).length = 40 + cutN p + n + m by rw [List.length_append, hbl, hyl])
  have N2 := Lib.hid (show n ≤ 2000 ∧ cutN p ≤ 8 from ⟨hn2, by unfold cutN; split <;> omega⟩)
  have M2 := Lib.hid (show m ≤ 2000 by omega)
  have hCP : pktV p A n c = pktV p A n c := rfl
  generalize layL p n xs = BS at *
  generalize cutN p = cut at *
  generalize hZ : pktV zPkt none 0 0 = Z at *
  obtain ⟨CP, hCP⟩ : ∃ C, C = pktV p A n c := ⟨_, rfl⟩
  rw [← hCP] at R0_W IP LC CM hW SC ⊢
  clear hp hx hy yx yy hi0 hz0 hz1 hz2 hxl hyl hfar hfar' hm2 hmay ee hbl hpl hby hn2 hZ hCP
  go_enter Try.func6, Try.ntmps6
  go_upto_region 1 with fail
  rw [← hW]
  clear hW
  go_upto_region 3 with (first
    | (go_at_call 9; (refine (F0.out _).mono ?_); rintro e w2 ⟨rfl, hw⟩; obtain rfl := hw.symm))
  clear k0
  go_upto_region 4 with (first
    | (refine wpList_load_rowG (by kernel_rfl) 28 (.tmp 2) rfl w.heap.size (by kernel_rfl) _ _ _ _ R0_W.out Try.underlying28 rfl IP.out ?_)
    | (go_at_call 11; (refine (LC.out _ HB_W.out).mono ?_); rintro e W2 ⟨A1, n1, c1, rfl, O1, BB⟩
       have HO1 := Lib.hid O1
       have HB_W2 := Lib.hid (HB_W.out.trans (BB.mono HB_W.out.size))
       have BS2 := Lib.hid (show W.heap.size ≤ W2.heap.size from BB.size)
       have R0_W2 := Lib.hid (show W2.heap[w.heap.size]? = some (.cells CP 28 (0, 0)) by rw [BB.block _ (lt_of_row R0_W.out)]; exact R0_W.out)
       have R0L := Lib.hid (lt_of_row R0_W.out)
       have HWw := Lib.hid HB_W.out.size
       clear BB O1 R0_W HB_W))
  generalize W.heap.size = gW at *
  go_upto_region 7 with (first
    | (at_builtin; (refine wpList_app _ rfl (.tmp 37) (.tmp 38) _ rfl 5 i0 _ 1 Try.underlying26 T1.out T2.out T3.out T4.out rfl gW _ BS rfl HO1.out W2.heap.size _ m c2 ys rfl (HY.out _ HB_W2.out) (by rw [BL.out]; have := N2.out; have := M2.out; unfold maxLen; omega) (by rw [BL.out]; have := N2.out; have := M2.out; omega) BS2.out ?_)
       intro v3 W3 O3 hg3
       obtain ⟨A3, c3, ev3, _, _, N3⟩ := O3.form
       rw [LL.out] at ev3 N3
       subst ev3
       have NN3 := Lib.hid N3
       have B3 := Lib.hid (show Below gW W2 W3 from (Below.refl _ _).grown hg3 BS2.out fun g hg => (HO1.out.blk g hg).1)
       have HB_W3 := Lib.hid (show Below w.heap.size w W3 from HB_W2.out.trans (B3.out.mono HWw.out))
       have R0_W3 := Lib.hid (show W3.heap[w.heap.size]? = some (.cells CP 28 (0, 0)) by rw [B3.out.block _ R0L.out]; exact R0_W2.out)
       clear O3 hg3 N3 B3)
    | (go_at_call 15; (refine (PC.out _ _ _ _ NN3.out (by have := N2.out; have := M2.out; omega)).mono ?_); rintro e v4 ⟨Aq, nq, cq, rfl, Nq, BB⟩
       have PQ := Lib.hid (PK.out Aq nq cq)
       have NQ4 := Lib.hid Nq
       have HB_v4 := Lib.hid (HB_W3.out.trans (BB.mono HB_W3.out.size))
       have RP_v4 := Lib.hid (show v4.heap[w.heap.size]? = some (.cells CP 28 (0, 0)) by rw [BB.block _ (lt_of_row R0_W3.out)]; exact R0_W3.out)
       have HN_v4 := Lib.hid (show (v4.alloc (.cells Z 28)).heap[v4.heap.size]? = some (.cells Z 28 (0, 0)) from heap_alloc_new _ _)
       clear BB Nq)
    | (refine wpList_store_row rfl 28 (.tmp 7) (.tmp 41) rfl v4.heap.size (pktV p Aq nq cq) rfl rfl _ _ HN_v4.out PQ.out.1 PQ.out.2.1 PQ.out.2.2 ?_))
  rw [World.setRow_alloc_new]
  have HB_W5 := Lib.hid (show Below w.heap.size w (v4.alloc (.cells (pktV p Aq nq cq) 28)) from HB_v4.out.trans ((alloc_below _ _).mono HB_v4.out.size))
  have BA := Lib.hid (alloc_below v4 (.cells (pktV p Aq nq cq) 28))
  have R0_W5 := Lib.hid (show (v4.alloc (.cells (pktV p Aq nq cq) 28)).heap[w.heap.size]? = some (.cells CP 28 (0, 0)) by rw [(alloc_below _ _).block _ (lt_of_row RP_v4.out)]; exact RP_v4.out)
  have RQ_W5 := Lib.hid (show (v4.alloc (.cells (pktV p Aq nq cq) 28)).heap[v4.heap.size]? = some (.cells (pktV p Aq nq cq) 28 (0, 0)) from heap_alloc_new _ _)
  have NQ5 := Lib.hid ((NQ4.out.below BA.out).more BA.out.size)
  have S5 := Lib.hid (SC.out _ _ _ cq HB_W5.out NQ5.out)
  clear HB_v4 BA RP_v4 NQ4 HN_v4 NN3 NQ5 SC
  generalize v4.heap.size = g2 at *
  generalize v4.alloc (.cells (pktV p Aq nq cq) 28) = W5 at *
  generalize pktV p Aq nq cq = CQ at *
  go_wp2_with (first
    | (refine wpList_load_rowG (by kernel_rfl) 28 (.tmp 2) rfl w.heap.size (by kernel_rfl) _ _ _ _ R0_W5.out Try.underlying28 rfl IP.out ?_)
    | (refine wpList_load_rowG (by kernel_rfl) 28 (.tmp 7) rfl g2 (by kernel_rfl) _ _ _ _ RQ_W5.out Try.underlying28 rfl PQ.out.1 ?_)
    | (go_at_call 19; (refine S5.out.mono ?_); rintro e W7 ⟨rfl, BB⟩
       have HB_W7 := Lib.hid (HB_W5.out.trans (BB.mono HB_W5.out.size))
       clear BB)
    | (go_at_call 10; (refine (alive_any _).mono ?_); rintro e w8 ⟨rfl, BB⟩
       have HB_w8 := Lib.hid (HB_W7.out.trans (BB.mono HB_W7.out.size))
       clear BB))
  go_ret
  exact ⟨rfl, HB_w8.out⟩
end Go.Proofs.Ytbhcpbihbecphaa.sxC

/-
  The walk of IpsixParses.
-/
namespace Go.Proofs.Ytbhcpbihbecphaa.sxC
open Go.ChangeShapes Go.WideShapes Go.ChangeAt Go.RowKit
open Go.Proofs.Ytbhcpbihbecphaa.memC Go.Proofs.Ytbhcpbihbecphaa.genC Go.Proofs.Ytbhcpbihbecphaa.butC Go.Proofs.Ytbhcpbihbecphaa.freeC Go.Proofs.Ytbhcpbihbecphaa.adC Go.Proofs.Ytbhcpbihbecphaa.pkC
set_option linter.unusedVariables false
set_option maxRecDepth 100000 in
set_option maxHeartbeats 4000000 in
theorem parses_walk (A : Option Addr) (n c : Nat) (bs : List Int) (w : World) (hb : Nums .u8 w w.heap.size A n bs) (hy : ∀ x ∈ bs, Byte x) (hn : n ≤ 9223372036854775807) (hnc : n ≤ c) (hcm : c ≤ 9223372036854775807) :
    Calls Try.prog 4 #[.slice A n c] w (Ret w (.bool true)) := by
  have hzv := zeroPkt
  have HB_w := Lib.hid (Below.refl w.heap.size w)
  by_cases h1 : 3000 < n
  · have q1 : (3000 : Int) < (n : Int) := by omega
    clear hb hy h1
    go_enter Try.func4, Try.ntmps4
    go_wp2_with (first
      | (go_at_call 10; (refine (alive_any _).mono ?_); rintro e w9 ⟨rfl, BB⟩
         have HB_w9 := Lib.hid (HB_w.out.trans (BB.mono HB_w.out.size))
         clear BB))
    go_ret
    exact ⟨rfl, HB_w9.out⟩
  have q1 : decide ((3000 : Int) < (n : Int)) = false := decide_eq_false (by omega)
  have hok := psP_ok hy
  have hxb := psX_byte hy
  have PC := Lib.hid (cparse_any A n c bs w hb hy (by omega))
  have DC := Lib.hid (fun w' (h : Below w.heap.size w w') => rparse_any A n c bs w' ((hb.below h).more h.size) hy (by omega) hnc hcm)
  have HC := Lib.hid (fun w' (h : Below w.heap.size w w') => chop_any A n c bs w' ((hb.below h).more h.size) hy (by omega) hnc hcm)
  have HD := Lib.hid (fun w' (h : Below w.heap.size w w') => rhop_any A n c bs w' ((hb.below h).more h.size) hy (by omega) hnc hcm)
  unfold PsR at PC DC
  unfold HpR at HC HD
  have PK := Lib.hid (fun B m d => And.intro (pkC hok B m d).info (And.intro (show (pktV zPkt none 0 0).size = (pktV (psP bs) B m d).size by rw [(pkC zPkt_ok none 0 0).size, (pkC hok B m d).size]) (pkt_one (psP bs) B m d)))
  have SC := Lib.hid (fun w' A B n c m d (hx : Nums .u8 w' w'.heap.size A n (psX bs)) (hy : Nums .u8 w' w'.heap.size B m (psX bs)) => (show Calls Try.prog 19 #[.agg (pktV (psP bs) A n c), .agg (pktV (psP bs) B m d)] w' (Ret w' (.bool true)) by
    have h2 := rsame_any (psP bs) (psP bs) A B n c m d (psX bs) (psX bs) w' hok hok hx hy hxb hxb
    rw [sameB_iff.2 ⟨rfl, rfl⟩] at h2
    exact h2))
  generalize psP bs = p at *
  generalize psX bs = xs at *
  generalize psE bs = er at *
  generalize hpX bs = ys at *
  generalize hpE bs = eh at *
  obtain ⟨SB, hSB⟩ : ∃ S, S = strOfNums ys := ⟨_, rfl⟩
  have CV := Lib.hid (fun w' (A1 : Option Addr) (n1 c1 : Nat) (h : Nums .u8 w' w'.heap.size A1 n1 ys) => (show (convert 26 9 (.slice A1 n1 c1)).run Try.prog w' = .ok (.string SB) w' by rw [hSB]; exact run_string h c1 26 5 9 Try.underlying26 Try.underlying5 Try.underlying9))
  generalize hZ : pktV zPkt none 0 0 = Z at *
  clear hb hy h1 hok hxb hSB hZ
  go_enter Try.func4, Try.ntmps4
  go_upto_region 4 with (first
    | (go_at_call 15; (refine (PC.out).mono ?_); rintro e v1 ⟨A1, n1, c1, rfl, Nq, BB⟩
       have PQ_v1 := Lib.hid (PK.out A1 n1 c1)
       have NQ_v1 := Lib.hid Nq
       have HB_v1 := Lib.hid (HB_w.out.trans (BB.mono HB_w.out.size))
       have HN_v1 := Lib.hid (show (v1.alloc (.cells Z 28)).heap[v1.heap.size]? = some (.cells Z 28 (0, 0)) from heap_alloc_new _ _)
       clear BB Nq)
    | (refine wpList_store_row rfl 28 (.tmp 3) (.tmp 18) rfl v1.heap.size (pktV p A1 n1 c1) rfl rfl _ _ HN_v1.out PQ_v1.out.1 PQ_v1.out.2.1 PQ_v1.out.2.2 ?_))
  rw [World.setRow_alloc_new]
  have BA := Lib.hid (alloc_below v1 (.cells (pktV p A1 n1 c1) 28))
  have HB_W1 := Lib.hid (show Below w.heap.size w (v1.alloc (.cells (pktV p A1 n1 c1) 28)) from HB_v1.out.trans (BA.out.mono HB_v1.out.size))
  have NP_W1 := Lib.hid ((NQ_v1.out.below BA.out).more BA.out.size)
  have RP_W1 := Lib.hid (show (v1.alloc (.cells (pktV p A1 n1 c1) 28)).heap[v1.heap.size]? = some (.cells (pktV p A1 n1 c1) 28 (0, 0)) from heap_alloc_new _ _)
  have GNP_g1 := Lib.hid (NQ_v1.out.below BA.out)
  have HBg_g1 := Lib.hid (show w.heap.size ≤ v1.heap.size from HB_v1.out.size)
  clear BA HB_v1 HN_v1 NQ_v1
  generalize v1.heap.size = g1 at *
  generalize (v1.alloc (.cells (pktV p A1 n1 c1) 28)) = W1 at *
  have P_g1 := PQ_v1
  clear PQ_v1
  go_upto_region 5 with (first
    | (go_at_call 16; (refine (DC.out _ HB_W1.out).mono ?_); rintro e v4 ⟨A2, n2, c2, rfl, Nq, BB⟩
       have PQ_v4 := Lib.hid (PK.out A2 n2 c2)
       have NQ_v4 := Lib.hid Nq
       have HB_v4 := Lib.hid (HB_W1.out.trans (BB.mono HB_W1.out.size))
       have RP_v4 := Lib.hid (show v4.heap[g1]? = some (.cells (pktV p A1 n1 c1) 28 (0, 0)) by rw [BB.block _ (lt_of_row RP_W1.out)]; exact RP_W1.out)
       have NP_v4 := Lib.hid ((NP_W1.out.below BB).more BB.size)
       have HN_v4 := Lib.hid (show (v4.alloc (.cells Z 28)).heap[v4.heap.size]? = some (.cells Z 28 (0, 0)) from heap_alloc_new _ _)
       clear BB Nq)
    | (refine wpList_store_row rfl 28 (.tmp 5) (.tmp 23) rfl v4.heap.size (pktV p A2 n2 c2) rfl rfl _ _ HN_v4.out PQ_v4.out.1 PQ_v4.out.2.1 PQ_v4.out.2.2 ?_))
  rw [World.setRow_alloc_new]
  have BA := Lib.hid (alloc_below v4 (.cells (pktV p A2 n2 c2) 28))
  have HB_W3 := Lib.hid (show Below w.heap.size w (v4.alloc (.cells (pktV p A2 n2 c2) 28)) from HB_v4.out.trans (BA.out.mono HB_v4.out.size))
  have RP_W3 := Lib.hid (show (v4.alloc (.cells (pktV p A2 n2 c2) 28)).heap[g1]? = some (.cells (pktV p A1 n1 c1) 28 (0, 0)) by rw [BA.out.block _ (lt_of_row RP_v4.out)]; exact RP_v4.out)
  have NP_W3 := Lib.hid ((NP_v4.out.below BA.out).more BA.out.size)
  have NQ_W3 := Lib.hid ((NQ_v4.out.below BA.out).more BA.out.size)
  have RQ_W3 := Lib.hid (show (v4.alloc (.cells (pktV p A2 n2 c2) 28)).heap[v4.heap.size]? = some (.cells (pktV p A2 n2 c2) 28 (0, 0)) from heap_alloc_new _ _)
  have LT_RP_g2 := Lib.hid (show g1 < v4.heap.size from lt_of_row RP_v4.out)
  have GNP_g2 := Lib.hid (NP_v4.out.below BA.out)
  have GNQ_g2 := Lib.hid (NQ_v4.out.below BA.out)
  have HBg_g2 := Lib.hid (show w.heap.size ≤ v4.heap.size from HB_v4.out.size)
  clear BA HB_v4 HN_v4 NQ_v4 RP_v4 NP_v4
  generalize v4.heap.size = g2 at *
  generalize (v4.alloc (.cells (pktV p A2 n2 c2) 28)) = W3 at *
  have P_g2 := PQ_v4
  clear PQ_v4
  go_upto_region 6 with (first
    | (go_at_call 17; (refine (HC.out _ HB_W3.out).mono ?_); rintro e W4 ⟨Ah, nh, ch, rfl, Nh, BB⟩
       have NH_W4 := Lib.hid Nh
       have HB_W4 := Lib.hid (HB_W3.out.trans (BB.mono HB_W3.out.size))
       have RP_W4 := Lib.hid (show W4.heap[g1]? = some (.cells (pktV p A1 n1 c1) 28 (0, 0)) by rw [BB.block _ (lt_of_row RP_W3.out)]; exact RP_W3.out)
       have RQ_W4 := Lib.hid (show W4.heap[g2]? = some (.cells (pktV p A2 n2 c2) 28 (0, 0)) by rw [BB.block _ (lt_of_row RQ_W3.out)]; exact RQ_W3.out)
       have NP_W4 := Lib.hid ((NP_W3.out.below BB).more BB.size)
       have NQ_W4 := Lib.hid ((NQ_W3.out.below BB).more BB.size)
       clear BB Nh))
  clear HB_W3 RP_W3 RQ_W3 NP_W3 NQ_W3
  go_upto_region 7 with (first
    | (go_at_call 18; (refine (HD.out _ HB_W4.out).mono ?_); rintro e W5 ⟨Ak, nk, ck, rfl, Nh, BB⟩
       have NK_W5 := Lib.hid Nh
       have HB_W5 := Lib.hid (HB_W4.out.trans (BB.mono HB_W4.out.size))
       have RP_W5 := Lib.hid (show W5.heap[g1]? = some (.cells (pktV p A1 n1 c1) 28 (0, 0)) by rw [BB.block _ (lt_of_row RP_W4.out)]; exact RP_W4.out)
       have RQ_W5 := Lib.hid (show W5.heap[g2]? = some (.cells (pktV p A2 n2 c2) 28 (0, 0)) by rw [BB.block _ (lt_of_row RQ_W4.out)]; exact RQ_W4.out)
       have NP_W5 := Lib.hid ((NP_W4.out.below BB).more BB.size)
       have NQ_W5 := Lib.hid ((NQ_W4.out.below BB).more BB.size)
       have NH_W5 := Lib.hid ((NH_W4.out.below BB).more BB.size)
       clear BB Nh))
  clear HB_W4 RP_W4 RQ_W4 NP_W4 NQ_W4 NH_W4
  have S5 := Lib.hid (SC.out _ _ _ _ c1 _ c2 NP_W5.out NQ_W5.out)
  go_wp2_with (first
    | (with_reducible refine atC.at_load 28 3 ?_; refine wpList_load_rowG (by kernel_rfl) 28 (.tmp 3) rfl g1 (by kernel_rfl) _ _ _ _ RP_W5.out Try.underlying28 rfl P_g1.out.1 ?_)
    | (with_reducible refine atC.at_load 28 5 ?_; refine wpList_load_rowG (by kernel_rfl) 28 (.tmp 5) rfl g2 (by kernel_rfl) _ _ _ _ RQ_W5.out Try.underlying28 rfl P_g2.out.1 ?_)
    | (go_at_call 19; (refine S5.out.mono ?_); rintro e W7 ⟨rfl, BB⟩
       have HB_W7 := Lib.hid (HB_W5.out.trans (BB.mono HB_W5.out.size))
       have hcx := CV.out W7 Ah nh ch ((NH_W5.out.below BB).more BB.size)
       have hcy := CV.out W7 Ak nk ck ((NK_W5.out.below BB).more BB.size)
       clear BB)
    | (with_reducible refine atC.at_bin .eql 9 ?_; refine wpList_runG (by kernel_rfl) _ (seq_self (T := 9) (S := SB) rfl (by kernel_rfl) (by kernel_rfl)) ?_)
    | (go_at_call 10; (refine (alive_any _).mono ?_); rintro e w9 ⟨rfl, BB⟩
       have HB_w9 := Lib.hid (HB_W7.out.trans (BB.mono HB_W7.out.size))
       clear BB))
  go_ret
  exact ⟨rfl, HB_w9.out⟩
end Go.Proofs.Ytbhcpbihbecphaa.sxC

/-
  The walk of IpsixWrapped.
-/
namespace Go.Proofs.Ytbhcpbihbecphaa.sxC
open Go.ChangeShapes Go.WideShapes Go.ChangeAt Go.RowKit
open Go.Proofs.Ytbhcpbihbecphaa.memC Go.Proofs.Ytbhcpbihbecphaa.genC Go.Proofs.Ytbhcpbihbecphaa.butC Go.Proofs.Ytbhcpbihbecphaa.freeC Go.Proofs.Ytbhcpbihbecphaa.adC Go.Proofs.Ytbhcpbihbecphaa.pkC
set_option linter.unusedVariables false
set_option maxRecDepth 100000 in
set_option maxHeartbeats 4000000 in
theorem wrapped_walk (A : Option Addr) (n c : Nat) (bs : List Int) (x : Int) (A2 : Option Addr) (m c2 : Nat) (ls : List Int) (w : World) (hb : Nums .u8 w w.heap.size A n bs) (hy : ∀ x ∈ bs, Byte x) (hx : Byte x) (hls : Nums .u8 w w.heap.size A2 m ls) (hyl : ∀ x ∈ ls, Byte x)
    (hn : n ≤ 9223372036854775807) (hm : m ≤ 9223372036854775807) (hnc : n ≤ c) (hcm : c ≤ 9223372036854775807) :
    Calls Try.prog 8 #[.slice A n c, .int .u8 x, .slice A2 m c2] w (Ret w (.bool true)) := by
  have hzv := zeroPkt
  have HB_w := Lib.hid (Below.refl w.heap.size w)
  by_cases h1 : 3000 < n
  · have q1 : (3000 : Int) < (n : Int) := by omega
    clear hb hy hx hls hyl h1
    go_enter Try.func8, Try.ntmps8
    go_wp2_with (first
      | (go_at_call 10; (refine (alive_any _).mono ?_); rintro e w9 ⟨rfl, BB⟩
         have HB_w9 := Lib.hid (HB_w.out.trans (BB.mono HB_w.out.size))
         clear BB))
    go_ret
    exact ⟨rfl, HB_w9.out⟩
  have q1 : decide ((3000 : Int) < (n : Int)) = false := decide_eq_false (by omega)
  by_cases h2 : 3000 < m
  · have q2 : (3000 : Int) < (m : Int) := by omega
    clear hb hy hx hls hyl h1 h2
    go_enter Try.func8, Try.ntmps8
    go_wp2_with (first
      | (go_at_call 10; (refine (alive_any _).mono ?_); rintro e w9 ⟨rfl, BB⟩
         have HB_w9 := Lib.hid (HB_w.out.trans (BB.mono HB_w.out.size))
         clear BB))
    go_ret
    exact ⟨rfl, HB_w9.out⟩
  have q2 : decide ((3000 : Int) < (m : Int)) = false := decide_eq_false (by omega)
  have WC := Lib.hid (cwrap_any A n c bs x A2 m c2 ls w hb hy hx hls hyl (by omega) (by omega) hnc hcm)
  unfold WrR at WC
  have hxl := hb.len
  have hll := hls.len
  by_cases h0 : wrE bs x ls = 0
  rotate_left
  · have e1 : wrX bs x ls = [] := by unfold wrX; rw [if_neg h0]
    rw [e1] at WC
    generalize wrE bs x ls = er at *
    have hq : (er == 0) = false := beq_eq_false_iff_ne.2 h0
    clear hb hy hx hls hyl h1 h2 hxl hll e1 h0
    go_enter Try.func8, Try.ntmps8
    go_upto_region 4 with (first
      | (go_at_call 20; (refine WC.out.mono ?_); rintro e W2 ⟨A1, n1, c1, rfl, O1, BB⟩
         have hn1 := O1.len
         simp only [List.length_nil] at hn1
         subst hn1
         have HB_W2 := Lib.hid (HB_w.out.trans (BB.mono HB_w.out.size))
         clear BB O1))
    go_wp2_with (first
      | (go_at_call 10; (refine (alive_any _).mono ?_); rintro e w9 ⟨rfl, BB⟩
         have HB_w9 := Lib.hid (HB_W2.out.trans (BB.mono HB_W2.out.size))
         clear BB))
    go_ret
    exact ⟨rfl, HB_w9.out⟩
  obtain ⟨_, _, _, r0, _⟩ := wrE_ok h0
  obtain ⟨s0, s1, s2⟩ := wrap_read hy h0
  have e1 : wrX bs x ls = wrL bs x ls := by unfold wrX; rw [if_pos h0]
  have hby := wrX_byte hy (ls := ls) hx hyl
  have hln := wrL_len h0
  rw [hxl, hll] at hln
  rw [e1] at hby WC
  rw [h0] at WC
  have hok := psP_ok hy
  have hxb := psX_byte hy
  have t1 : psP (wrL bs x ls) = psP bs := by unfold psP; rw [s0, r0, s1]
  have t2 : psX (wrL bs x ls) = psX bs := by unfold psX; rw [s0, r0, s2]
  have PC := Lib.hid (fun w' (h : Below w.heap.size w w') => cparse_any A n c bs w' ((hb.below h).more h.size) hy (by omega))
  unfold PsR at PC
  rw [r0] at PC
  have PD := Lib.hid (fun w' A' n' c' (hb : Nums .u8 w' w'.heap.size A' n' (wrL bs x ls)) (hn : n' ≤ 9000) => cparse_any A' n' c' (wrL bs x ls) w' hb hby hn)
  unfold PsR at PD
  rw [s0, t1, t2] at PD
  have PK := Lib.hid (fun B m d => And.intro (pkC hok B m d).info (And.intro (show (pktV zPkt none 0 0).size = (pktV (psP bs) B m d).size by rw [(pkC zPkt_ok none 0 0).size, (pkC hok B m d).size]) (pkt_one (psP bs) B m d)))
  have SC := Lib.hid (fun w' A B n c m d (hx : Nums .u8 w' w'.heap.size A n (psX bs)) (hy : Nums .u8 w' w'.heap.size B m (psX bs)) => (show Calls Try.prog 19 #[.agg (pktV (psP bs) A n c), .agg (pktV (psP bs) B m d)] w' (Ret w' (.bool true)) by
    have h2 := rsame_any (psP bs) (psP bs) A B n c m d (psX bs) (psX bs) w' hok hok hx hy hxb hxb
    rw [sameB_iff.2 ⟨rfl, rfl⟩] at h2
    exact h2))
  have BL := Lib.hid hln
  have M2 := Lib.hid (show n ≤ 3000 ∧ m ≤ 3000 by omega)
  have wr1 : IntKind.i64.wrap ((n : Int) + (m : Int)) = (n : Int) + (m : Int) := IntWalk.i64_in _ (by omega)
  have wr2 : IntKind.i64.wrap ((n : Int) + (m : Int) + 2) = (n : Int) + (m : Int) + 2 := IntWalk.i64_in _ (by omega)
  generalize psP bs = p at *
  generalize psX bs = xs at *
  generalize wrL bs x ls = BS at *
  generalize hZ : pktV zPkt none 0 0 = Z at *
  clear hb hy hx hls hyl h1 h2 hok hxb hZ h0 r0 s0 s1 s2 t1 t2 e1 hby hln hxl hll
  go_enter Try.func8, Try.ntmps8
  go_upto_region 4 with (first
    | (go_at_call 20; (refine WC.out.mono ?_); rintro e W2 ⟨A1, n1, c1, rfl, O1, BB⟩
       have NB_W2 := Lib.hid O1.nums
       have hn1 := O1.len
       rw [BL.out] at hn1
       have HN1 := Lib.hid (show n1 ≤ 9000 by have := M2.out; omega)
       have qe : ((n1 : Int) == (n : Int) + (m : Int) + 2) = true := beq_iff_eq.2 (by omega)
       have HB_W2 := Lib.hid (HB_w.out.trans (BB.mono HB_w.out.size))
       clear BB O1 hn1))
  go_upto_region 7 with (first
    | (go_at_call 15; (refine (PC.out _ HB_W2.out).mono ?_); rintro e v1 ⟨A5, n5, c5, rfl, Nq, BB⟩
       have PQ_v1 := Lib.hid (PK.out A5 n5 c5)
       have NQ_v1 := Lib.hid Nq
       have HB_v1 := Lib.hid (HB_W2.out.trans (BB.mono HB_W2.out.size))
       have NB_v1 := Lib.hid ((NB_W2.out.below BB).more BB.size)
       have HN_v1 := Lib.hid (show (v1.alloc (.cells Z 28)).heap[v1.heap.size]? = some (.cells Z 28 (0, 0)) from heap_alloc_new _ _)
       clear BB Nq)
    | (refine wpList_store_row rfl 28 (.tmp 9) (.tmp 40) rfl v1.heap.size (pktV p A5 n5 c5) rfl rfl _ _ HN_v1.out PQ_v1.out.1 PQ_v1.out.2.1 PQ_v1.out.2.2 ?_))
  rw [World.setRow_alloc_new]
  have BA := Lib.hid (alloc_below v1 (.cells (pktV p A5 n5 c5) 28))
  have HB_W3 := Lib.hid (show Below w.heap.size w (v1.alloc (.cells (pktV p A5 n5 c5) 28)) from HB_v1.out.trans (BA.out.mono HB_v1.out.size))
  have NB_W3 := Lib.hid ((NB_v1.out.below BA.out).more BA.out.size)
  have NP_W3 := Lib.hid ((NQ_v1.out.below BA.out).more BA.out.size)
  have RP_W3 := Lib.hid (show (v1.alloc (.cells (pktV p A5 n5 c5) 28)).heap[v1.heap.size]? = some (.cells (pktV p A5 n5 c5) 28 (0, 0)) from heap_alloc_new _ _)
  have GNB_g1 := Lib.hid (NB_v1.out.below BA.out)
  have GNP_g1 := Lib.hid (NQ_v1.out.below BA.out)
  have HBg_g1 := Lib.hid (show w.heap.size ≤ v1.heap.size from HB_v1.out.size)
  clear BA HB_v1 HN_v1 NQ_v1 NB_v1
  generalize v1.heap.size = g1 at *
  generalize (v1.alloc (.cells (pktV p A5 n5 c5) 28)) = W3 at *
  have P_g1 := PQ_v1
  clear PQ_v1
  go_upto_region 8 with (first
    | (go_at_call 15; (refine (PD.out _ _ _ _ NB_W3.out HN1.out).mono ?_); rintro e v4 ⟨A6, n6, c6, rfl, Nq, BB⟩
       have PQ_v4 := Lib.hid (PK.out A6 n6 c6)
       have NQ_v4 := Lib.hid Nq
       have HB_v4 := Lib.hid (HB_W3.out.trans (BB.mono HB_W3.out.size))
       have RP_v4 := Lib.hid (show v4.heap[g1]? = some (.cells (pktV p A5 n5 c5) 28 (0, 0)) by rw [BB.block _ (lt_of_row RP_W3.out)]; exact RP_W3.out)
       have NP_v4 := Lib.hid ((NP_W3.out.below BB).more BB.size)
       have HN_v4 := Lib.hid (show (v4.alloc (.cells Z 28)).heap[v4.heap.size]? = some (.cells Z 28 (0, 0)) from heap_alloc_new _ _)
       clear BB Nq)
    | (refine wpList_store_row rfl 28 (.tmp 11) (.tmp 45) rfl v4.heap.size (pktV p A6 n6 c6) rfl rfl _ _ HN_v4.out PQ_v4.out.1 PQ_v4.out.2.1 PQ_v4.out.2.2 ?_))
  rw [World.setRow_alloc_new]
  have BA := Lib.hid (alloc_below v4 (.cells (pktV p A6 n6 c6) 28))
  have HB_W4 := Lib.hid (show Below w.heap.size w (v4.alloc (.cells (pktV p A6 n6 c6) 28)) from HB_v4.out.trans (BA.out.mono HB_v4.out.size))
  have RP_W4 := Lib.hid (show (v4.alloc (.cells (pktV p A6 n6 c6) 28)).heap[g1]? = some (.cells (pktV p A5 n5 c5) 28 (0, 0)) by rw [BA.out.block _ (lt_of_row RP_v4.out)]; exact RP_v4.out)
  have NP_W4 := Lib.hid ((NP_v4.out.below BA.out).more BA.out.size)
  have NQ_W4 := Lib.hid ((NQ_v4.out.below BA.out).more BA.out.size)
  have RQ_W4 := Lib.hid (show (v4.alloc (.cells (pktV p A6 n6 c6) 28)).heap[v4.heap.size]? = some (.cells (pktV p A6 n6 c6) 28 (0, 0)) from heap_alloc_new _ _)
  have LT_RP_g2 := Lib.hid (show g1 < v4.heap.size from lt_of_row RP_v4.out)
  have GNP_g2 := Lib.hid (NP_v4.out.below BA.out)
  have GNQ_g2 := Lib.hid (NQ_v4.out.below BA.out)
  have HBg_g2 := Lib.hid (show w.heap.size ≤ v4.heap.size from HB_v4.out.size)
  clear BA HB_v4 HN_v4 NQ_v4 RP_v4 NP_v4
  generalize v4.heap.size = g2 at *
  generalize (v4.alloc (.cells (pktV p A6 n6 c6) 28)) = W4 at *
  have P_g2 := PQ_v4
  clear PQ_v4
  have S5 := Lib.hid (SC.out _ _ _ _ c5 _ c6 NP_W4.out NQ_W4.out)
  go_wp2_with (first
    | (with_reducible refine atC.at_load 28 9 ?_; refine wpList_load_rowG (by kernel_rfl) 28 (.tmp 9) rfl g1 (by kernel_rfl) _ _ _ _ RP_W4.out Try.underlying28 rfl P_g1.out.1 ?_)
    | (with_reducible refine atC.at_load 28 11 ?_; refine wpList_load_rowG (by kernel_rfl) 28 (.tmp 11) rfl g2 (by kernel_rfl) _ _ _ _ RQ_W4.out Try.underlying28 rfl P_g2.out.1 ?_)
    | (go_at_call 19; (refine S5.out.mono ?_); rintro e W7 ⟨rfl, BB⟩
       have HB_W7 := Lib.hid (HB_W4.out.trans (BB.mono HB_W4.out.size))
       clear BB)
    | (go_at_call 10; (refine (alive_any _).mono ?_); rintro e w9 ⟨rfl, BB⟩
       have HB_w9 := Lib.hid (HB_W7.out.trans (BB.mono HB_W7.out.size))
       clear BB))
  go_ret
  exact ⟨rfl, HB_w9.out⟩
end Go.Proofs.Ytbhcpbihbecphaa.sxC
