/-
  3 texts of a proof, joined.
-/
import Derived.Test.YtmedccfekfnmlaaMg15
import Derived.Test.YtmedccfekfnmlaaMg12
import Derived.Laws.BitsAllLaws
import Derived.Test.YtmedccfekfnmlaaMg10

/-
  What a header and a load tell: the program's packet.
-/
namespace Go.Proofs.Ytmedccfekfnmlaa.pkC
open Go.ChangeShapes Go.WideShapes Go.ChangeAt Go.RowKit
open Go.Proofs.Ytmedccfekfnmlaa.memC Go.Proofs.Ytmedccfekfnmlaa.genC Go.Proofs.Ytmedccfekfnmlaa.butC Go.Proofs.Ytmedccfekfnmlaa.freeC Go.Proofs.Ytmedccfekfnmlaa.adC
set_option linter.unusedVariables false
theorem pk_head {hd : List Int} (hl : 20 ≤ hd.length) : pkOf hd = ⟨false, fourB (hd.getD 12 0) (hd.getD 13 0) (hd.getD 14 0) (hd.getD 15 0), false, fourB (hd.getD 16 0) (hd.getD 17 0) (hd.getD 18 0) (hd.getD 19 0), hd.getD 9 0, hd.getD 8 0, w2 hd 4, decide (w2 hd 6 / 16384 % 2 = 1), decide (w2 hd 6 / 8192 % 2 = 1), w2 hd 6 % 8192 * 8⟩ := by
  have h4 : ∀ k, k + 4 ≤ hd.length → (hd.drop k).take 4 = [hd.getD k 0, hd.getD (k + 1) 0, hd.getD (k + 2) 0, hd.getD (k + 3) 0] := fun k hk => by
    rw [List.drop_eq_getElem_cons (by omega), List.drop_eq_getElem_cons (by omega), List.drop_eq_getElem_cons (by omega), List.drop_eq_getElem_cons (by omega)]
    simp only [List.getD_eq_getElem?_getD]
    rw [List.getElem?_eq_getElem (by omega), List.getElem?_eq_getElem (by omega), List.getElem?_eq_getElem (by omega), List.getElem?_eq_getElem (by omega)]
    rfl
  unfold pkOf fourB
  rw [h4 12 (by omega), h4 16 (by omega)]
theorem pk_built (x0 x1 x2 x3 y0 y1 y2 y3 pr ho id off : Int) (wh mo : Bool) (A : Option Addr) (m d : Nat) :
    Try.prog.built 28 [(0, .agg (adrV false (fourB x0 x1 x2 x3))), (1, .agg (adrV false (fourB y0 y1 y2 y3))), (2, .int .u8 pr), (3, .int .u8 ho), (4, .int .u32 id), (5, .bool wh), (6, .bool mo), (7, .int .i64 off), (8, .slice A m d)] =
      some (pktV ⟨false, fourB x0 x1 x2 x3, false, fourB y0 y1 y2 y3, pr, ho, id, wh, mo, off⟩ A m d) := by kernel_rfl
theorem built9_run {P : Program} {fr : Act} {o : Oper} {w : World} {T : TypeId} {x0 x1 x2 x3 x4 x5 x6 x7 x8 : Operand} {v0 v1 v2 v3 v4 v5 v6 v7 v8 : Value} {C : Array Value} (ho : o.op = .build T #[(0, x0), (1, x1), (2, x2), (3, x3), (4, x4), (5, x5), (6, x6), (7, x7), (8, x8)])
    (h0 : fr.eval x0 = v0) (h1 : fr.eval x1 = v1) (h2 : fr.eval x2 = v2) (h3 : fr.eval x3 = v3) (h4 : fr.eval x4 = v4) (h5 : fr.eval x5 = v5) (h6 : fr.eval x6 = v6) (h7 : fr.eval x7 = v7) (h8 : fr.eval x8 = v8)
    (hb : P.built T [(0, v0), (1, v1), (2, v2), (3, v3), (4, v4), (5, v5), (6, v6), (7, v7), (8, v8)] = some C) : (execOp fr.eval o).run P w = .ok (.value (.agg C)) w := by
  unfold execOp
  have h : (Instr.build T #[(0, v0), (1, v1), (2, v2), (3, v3), (4, v4), (5, v5), (6, v6), (7, v7), (8, v8)]).run P w = .ok (.agg C) w := run_build w T _ C hb
  simp [ho, h0, h1, h2, h3, h4, h5, h6, h7, h8, h, Result.andThen_ok]
theorem and_bit_nat (n i : Nat) : n &&& 2 ^ i = 0 ↔ n.testBit i = false := by
  constructor
  · intro h
    have h2 := congrArg (fun k => Nat.testBit k i) h
    simpa [Nat.testBit_and, Nat.testBit_two_pow] using h2
  · intro h
    apply Nat.eq_of_testBit_eq
    intro j
    rw [Nat.testBit_and, Nat.testBit_two_pow, Nat.zero_testBit]
    by_cases e : i = j
    · subst e; simp [h]
    · simp [e]
theorem and_bit {x : Int} (h0 : 0 ≤ x) (h1 : x ≤ 65535) (i : Nat) (hi : i < 16) : (bits .and .u16 x (2 ^ i) == 0) = !decide (x / 2 ^ i % 2 = 1) := by
  obtain ⟨n, rfl⟩ : ∃ n : Nat, x = n := ⟨x.toNat, by omega⟩
  have hp : (2 : Int) ^ i = ((2 ^ i : Nat) : Int) := by simp
  have hlt : 2 ^ i < 65536 := by
    have := Nat.pow_lt_pow_right (a := 2) (by decide) hi
    simpa using this
  rw [hp, Go.u16_and_nat n (2 ^ i) (by omega) hlt]
  have ht : n.testBit i = decide (n / 2 ^ i % 2 = 1) := Nat.testBit_eq_decide_div_mod_eq
  have hz := and_bit_nat n i
  rw [ht] at hz
  have e2 : (n : Int) / ((2 ^ i : Nat) : Int) % 2 = ((n / 2 ^ i % 2 : Nat) : Int) := by omega
  rw [e2]
  generalize n &&& 2 ^ i = u at *
  generalize n / 2 ^ i % 2 = v at *
  by_cases h : v = 1
  · have hu : ¬ u = 0 := fun e => by have := hz.1 e; simp [h] at this
    rw [decide_eq_true (by omega)]
    exact beq_eq_false_iff_ne.2 (by omega)
  · have hu : u = 0 := hz.2 (by simp [h])
    rw [decide_eq_false (by omega), hu]; rfl
theorem and_low {x : Int} (h0 : 0 ≤ x) (h1 : x ≤ 65535) : bits .and .u16 x 8191 = x % 8192 := by
  obtain ⟨n, rfl⟩ : ∃ n : Nat, x = n := ⟨x.toNat, by omega⟩
  have h := Go.u16_and_nat n 8191 (by omega) (by decide)
  have e : n &&& 8191 = n % 8192 := Nat.and_two_pow_sub_one_eq_mod n 13
  rw [e] at h
  exact h.trans (by omega)
def pcR (g0 : Nat) (Z T : Array Value) : Nat → (Nat → Value) → World → Prop
  | 0, _, w => w.heap[g0]? = some (.cells Z 28 (0, 0))
  | 1, _, w => w.heap[g0]? = some (.cells T 28 (0, 0))
  | _, _, _ => True
theorem pcR.keep (g0 : Nat) (Z T : Array Value) (k : Nat) (us us' : Nat → Value) (w w' : World) (hb : Below w.heap.size w w') (hR : pcR g0 Z T k us w) : pcR g0 Z T k us' w' := by
  unfold pcR at hR ⊢
  split at hR
  · show w'.heap[g0]? = _
    rw [hb.block _ (lt_of_row hR)]; exact hR
  · show w'.heap[g0]? = _
    rw [hb.block _ (lt_of_row hR)]; exact hR
  · trivial
/-- a packet and whether its flags may stand there -/
def PcR (w : World) (hd : List Int) (A : Option Addr) (m d : Nat) (e : Ending) (w' : World) : Prop := e = .returned (.tuple #[.agg (pktV (pkOf hd) A m d), .bool (decide (w2 hd 6 < 32768))]) ∧ Below w.heap.size w w'
def pcV (b o c g0 : Nat) (A2 : Option Addr) (m d : Nat) (x4 x6 pr ho y1 y2 y3 y4 off : Int) (wh mo q : Bool) (S D C : Array Value) : Nat → Value → World → Prop
  | 0, v, _ => v = .slice (some ⟨b, o, none⟩) 20 c
  | 1, v, _ => v = .agg S
  | 2, v, _ => v = .slice (some ⟨b, o, none⟩) 20 c
  | 3, v, _ => v = .agg D
  | 4, v, _ => v = .slice (some ⟨b, o, none⟩) 20 c
  | 5, v, _ => v = .pointer (some ⟨b, o + 9, none⟩)
  | 6, v, _ => v = .int .u8 pr
  | 7, v, _ => v = .slice (some ⟨b, o, none⟩) 20 c
  | 8, v, _ => v = .pointer (some ⟨b, o + 8, none⟩)
  | 9, v, _ => v = .int .u8 ho
  | 10, v, _ => v = .slice (some ⟨b, o, none⟩) 20 c
  | 11, v, _ => v = .int .u16 x4
  | 12, v, _ => v = .int .u32 x4
  | 13, v, _ => v = .int .u16 x6
  | 14, v, _ => v = .int .u16 y1
  | 15, v, _ => v = .bool wh
  | 16, v, _ => v = .int .u16 x6
  | 17, v, _ => v = .int .u16 y2
  | 18, v, _ => v = .bool mo
  | 19, v, _ => v = .int .u16 x6
  | 20, v, _ => v = .int .u16 y3
  | 21, v, _ => v = .int .i64 y3
  | 22, v, _ => v = .int .i64 off
  | 23, v, _ => v = .slice A2 m d
  | 24, v, _ => v = .agg C
  | 25, v, _ => v = .int .u16 x6
  | 26, v, _ => v = .int .u16 y4
  | 27, v, _ => v = .bool q
  | 29, v, _ => v = .bool q
  | _, _, _ => True
theorem pcV.keep (b o c g0 : Nat) (A2 : Option Addr) (m d : Nat) (x4 x6 pr ho y1 y2 y3 y4 off : Int) (wh mo q : Bool) (S D C : Array Value) (i : Nat) (v : Value) (w w' : World) (h : pcV b o c g0 A2 m d x4 x6 pr ho y1 y2 y3 y4 off wh mo q S D C i v w) : pcV b o c g0 A2 m d x4 x6 pr ho y1 y2 y3 y4 off wh mo q S D C i v w' := by
  unfold pcV at h ⊢
  split at h <;> exact h
def pcT : List (Option Nat) := [none, none, none, none, none, some 29, none, none, none, some 0, some 1, some 2, some 3, some 4, some 5, some 6, some 7, some 8, some 9, some 10, some 11, some 12, some 13, some 14, some 15, some 16, some 17, some 18, some 19, some 20, some 21, some 22, some 23, some 24, some 25, some 26, some 27]
set_option maxRecDepth 100000 in
set_option maxHeartbeats 4000000 in
theorem packet_any (A : Option Addr) (c : Nat) (hd : List Int) (A2 : Option Addr) (m d : Nat) (w : World) (hb : Nums .u8 w w.heap.size A 20 hd) (hy : ∀ x ∈ hd, Byte x) (hc : 20 ≤ c) (hcm : c ≤ 9223372036854775807) :
    Calls Try.prog 46 #[.slice A 20 c, .slice A2 m d] w (PcR w hd A2 m d) := by
  obtain ⟨b, o, rfl, hlt, hcell⟩ := hb.at_ (by decide)
  have hl20 : 20 ≤ hd.length := by rw [hb.len]; exact Nat.le_refl _
  have hok := pkOf_ok hy hl20
  have ek := pk_head hl20
  have c8 := hcell 8 (by decide)
  have c9 := hcell 9 (by decide)
  obtain ⟨p0, p1⟩ := w2_byte hy 4
  obtain ⟨q0, q1⟩ := w2_byte hy 6
  have B1 := and_bit q0 q1 14 (by decide)
  have B2 := and_bit q0 q1 13 (by decide)
  have B4 := and_bit q0 q1 15 (by decide)
  have A3 := and_low q0 q1
  have hbelow := alloc_below w (.cells (pktV zPkt none 0 0) 28)
  have N6 := Lib.hid (fun w' (h : Below w.heap.size w w') => number_any (some ⟨b, o, none⟩) 20 c 6 6 hd w' ((hb.below h).more h.size) hy rfl (by decide) hc hcm)
  have F4' := Lib.hid (fun w' (h : Below w.heap.size w w') => (number_any (some ⟨b, o, none⟩) 20 c 4 4 hd w' ((hb.below h).more h.size) hy rfl (by decide) hc hcm).mono fun e w2' h => (show Ret w' (.int .u16 (w2 hd 4)) e w2' from ⟨h.1, h.2 ▸ Below.refl _ _⟩))
  have FS' := Lib.hid (fun w' (h : Below w.heap.size w w') => address_12 (some ⟨b, o, none⟩) c hd w' ((hb.below h).more h.size) hc hcm)
  have FD' := Lib.hid (fun w' (h : Below w.heap.size w w') => address_16 (some ⟨b, o, none⟩) c hd w' ((hb.below h).more h.size) hc hcm)
  have hq : decide (w2 hd 6 < 32768) = (bits .and .u16 (w2 hd 6) (2 ^ 15) == 0) := by
    rw [B4]
    by_cases h : w2 hd 6 < 32768
    · rw [decide_eq_true h, decide_eq_false (by omega)]; rfl
    · rw [decide_eq_false h, decide_eq_true (by omega)]; rfl
  unfold PcR
  rw [ek] at hok ⊢
  rw [hq]
  rw [← Bool.not_eq_eq_eq_not] at B1 B2
  have OK := Lib.hid hok
  have HC0 := Lib.hid (pk_built (hd.getD 12 0) (hd.getD 13 0) (hd.getD 14 0) (hd.getD 15 0) (hd.getD 16 0) (hd.getD 17 0) (hd.getD 18 0) (hd.getD 19 0) (hd.getD 9 0) (hd.getD 8 0) (w2 hd 4) (w2 hd 6 % 8192 * 8) (decide (w2 hd 6 / 16384 % 2 = 1)) (decide (w2 hd 6 / 8192 % 2 = 1)) A2 m d)
  rw [show (2 : Int) ^ 14 = 16384 from rfl] at B1
  rw [show (2 : Int) ^ 13 = 8192 from rfl] at B2
  rw [show (2 : Int) ^ 15 = 32768 from rfl] at hq ⊢
  have R0 := Lib.hid (show (w.alloc (.cells (pktV zPkt none 0 0) 28)).heap[w.heap.size]? = some (.cells (pktV zPkt none 0 0) 28 (0, 0)) from heap_alloc_new w _)
  have HW := Lib.hid hbelow
  have U := Lib.hid (pkC OK.out A2 m d).info
  have S41 := Lib.hid (show (pktV zPkt none 0 0).size = _ from (pkC zPkt_ok none 0 0).size.trans (pkC OK.out A2 m d).size.symm)
  have O := Lib.hid (pkt_one ⟨false, fourB (hd.getD 12 0) (hd.getD 13 0) (hd.getD 14 0) (hd.getD 15 0), false, fourB (hd.getD 16 0) (hd.getD 17 0) (hd.getD 18 0) (hd.getD 19 0), hd.getD 9 0, hd.getD 8 0, w2 hd 4, decide (w2 hd 6 / 16384 % 2 = 1), decide (w2 hd 6 / 8192 % 2 = 1), w2 hd 6 % 8192 * 8⟩ A2 m d)
  generalize pktV ⟨false, fourB (hd.getD 12 0) (hd.getD 13 0) (hd.getD 14 0) (hd.getD 15 0), false, fourB (hd.getD 16 0) (hd.getD 17 0) (hd.getD 18 0) (hd.getD 19 0), hd.getD 9 0, hd.getD 8 0, w2 hd 4, decide (w2 hd 6 / 16384 % 2 = 1), decide (w2 hd 6 / 8192 % 2 = 1), w2 hd 6 % 8192 * 8⟩ A2 m d = C at *
  obtain ⟨y1, hy1⟩ : ∃ y, y = bits .and .u16 (w2 hd 6) 16384 := ⟨_, rfl⟩
  obtain ⟨y2, hy2⟩ : ∃ y, y = bits .and .u16 (w2 hd 6) 8192 := ⟨_, rfl⟩
  obtain ⟨y4, hy4⟩ : ∃ y, y = bits .and .u16 (w2 hd 6) 32768 := ⟨_, rfl⟩
  obtain ⟨y3, hy3⟩ : ∃ y, y = w2 hd 6 % 8192 := ⟨_, rfl⟩
  obtain ⟨off, hof⟩ : ∃ y, y = y3 * 8 := ⟨_, rfl⟩
  rw [← hy1] at B1
  rw [← hy2] at B2
  rw [← hy4]
  rw [← hy3, ← hof] at HC0
  rw [← hy3] at A3
  have hy5 : 0 ≤ y3 ∧ y3 ≤ 8191 := by omega
  have W4 := Lib.hid (show IntKind.u32.wrap (w2 hd 4) = w2 hd 4 from IntWalk.u32_in _ (by omega))
  have W3 := Lib.hid (show IntKind.i64.wrap y3 = y3 from IntWalk.i64_in _ (by omega))
  have N3 := Lib.hid (show IntKind.i64.wrap off = off from IntWalk.i64_in _ (by omega))
  have M3 := Lib.hid (show 8 * y3 = off by omega)
  have A1 := Lib.hid hy1.symm
  have A2h := Lib.hid hy2.symm
  have A4 := Lib.hid hy4.symm
  have A3h := Lib.hid A3
  have B1h := Lib.hid (show (y1 != 0) = decide (w2 hd 6 / 16384 % 2 = 1) from B1)
  have B2h := Lib.hid (show (y2 != 0) = decide (w2 hd 6 / 8192 % 2 = 1) from B2)
  clear A3 B1 B2 B4
  obtain ⟨q, hqq⟩ : ∃ q, q = (y4 == 0) := ⟨_, rfl⟩
  have B4h := Lib.hid hqq.symm
  rw [← hqq]
  clear hy1 hy2 hy3 hy4 hy5 hof hqq hq hok ek OK hbelow p0 p1 q0 q1
  generalize decide (w2 hd 6 / 16384 % 2 = 1) = wh at *
  generalize decide (w2 hd 6 / 8192 % 2 = 1) = mo at *
  generalize w2 hd 6 = x6 at *
  generalize w2 hd 4 = x4 at *
  generalize adrV false (fourB (hd.getD 12 0) (hd.getD 13 0) (hd.getD 14 0) (hd.getD 15 0)) = S at *
  generalize adrV false (fourB (hd.getD 16 0) (hd.getD 17 0) (hd.getD 18 0) (hd.getD 19 0)) = D at *
  generalize hd.getD 8 0 = ho at *
  generalize hd.getD 9 0 = pr at *
  have HC := HC0
  have hzv := zeroPkt
  clear hcell hb hy HC0 hl20
  go_enter Try.func46, Try.ntmps46
  go_upto_region 1 with fail
  clear hzv
  generalize pktV zPkt none 0 0 = Z at *
  generalize w.alloc (.cells Z 28) = Wr at *
  go_upto_region 2 with (first
    | (go_at_call 34; (refine (N6.out _ HW.out).mono ?_); rintro e w' ⟨rfl, rfl⟩))
  have F4 := Lib.hid (fun w' (h : Below w.heap.size Wr w') => F4'.out w' (HW.out.trans h))
  have FS := Lib.hid (fun w' (h : Below w.heap.size Wr w') => FS'.out w' (HW.out.trans h))
  have FD := Lib.hid (fun w' (h : Below w.heap.size Wr w') => FD'.out w' (HW.out.trans h))
  have K8 := Lib.hid (fun (w' : World) (h : Below w.heap.size Wr w') => (show w'.cell? ⟨b, o + 8, none⟩ = some (.int .u8 ho) from ((HW.out.trans h).cell (p := ⟨b, o + 8, none⟩) hlt).trans c8))
  have K9 := Lib.hid (fun (w' : World) (h : Below w.heap.size Wr w') => (show w'.cell? ⟨b, o + 9, none⟩ = some (.int .u8 pr) from ((HW.out.trans h).cell (p := ⟨b, o + 9, none⟩) hlt).trans c9))
  clear c8 c9 hlt N6 F4' FS' FD'
  obtain ⟨B, hB⟩ : ∃ B, B = w.heap.size := ⟨_, rfl⟩
  have hBe := Lib.hid hB
  rw [← hB] at K8 K9 F4 FS FD
  clear hB
  refine with_act fun a0 ha0 => ?_
  have hl : pcT.length = a0.tmps.size := by rw [ha0]; rfl
  have k0 : a0.tmps[0]?.getD undef = .slice (some ⟨b, o, none⟩) 20 c := by rw [ha0]; rfl
  have k1 : a0.tmps[1]?.getD undef = .slice A2 m d := by rw [ha0]; rfl
  have k4 : a0.tmps[4]?.getD undef = .pointer (some ⟨w.heap.size, 0, none⟩) := by rw [ha0]; rfl
  have k6 : a0.tmps[6]?.getD undef = .int .u16 x6 := by rw [ha0]; rfl
  refine wp_region_chain (by kernel_rfl) pcT (by kernel_rfl) (by kernel_rfl) hl (fun i => if i = 29 then .bool false else undef) (by rw [ha0]; rfl) (B) [28] (by kernel_rfl) (by decide) (by decide) (fun w' => Below B Wr w') (pcV b o c w.heap.size A2 m d x4 x6 pr ho y1 y2 y3 y4 off wh mo q S D C) (pcR w.heap.size Z C) (Nat.le_trans (Nat.le_of_eq hBe.out) (Nat.le_of_lt (lt_of_row R0.out))) ((Below.refl _ _).drew) R0.out (fun w w' _ h1 h2 => h2.trans h1) (fun i v w w' _ _ h => pcV.keep _ _ _ _ _ _ _ _ _ _ _ _ _ _ _ _ _ _ _ _ _ _ i v w w' h) (fun k us us' w w' _ _ hb hR => pcR.keep _ _ _ k us us' w w' hb hR) ⟨?_, ?_, ?_, ?_, ?_, ?_, ?_, ?_, ?_, ?_, ?_, ?_, ?_, ?_, ?_, ?_, ?_, ?_, ?_, ?_, ?_, ?_, ?_, ?_, ?_, ?_, ?_, ?_, ?_, ?_, trivial⟩ ?_
  · refine stepC_val [] (by kernel_rfl) (by decide) (by decide) rfl fun us w' hB hG hV => ?_
    have o0 := (frame_old2 (us := us) (a := a0) (show (pcT[0]?).join = none from rfl)).trans k0
    generalize frame pcT a0 us = fr at *
    exact val_C (v := .slice (some ⟨b, o, none⟩) 20 c) (w' := w') (by go_simp) (Below.refl _ _) rfl
  · refine stepC_val [0] (by kernel_rfl) (by decide) (by decide) rfl fun us w' hB hG hV => ?_
    have e0 : us 0 = .slice (some ⟨b, o, none⟩) 20 c := hV 0 (by simp)
    have v0 := (frame_at2 (us := us) hl (show (pcT[9]?).join = some 0 from rfl)).trans e0
    generalize frame pcT a0 us = fr at *
    exact call_C (f := 51) (args := #[.slice (some ⟨b, o, none⟩) 20 c, .int .i64 12]) (by go_simp) ((FS.out w' hG).mono fun e w'' h => ⟨_, h.1, h.2, rfl⟩)
  · refine stepC_val [] (by kernel_rfl) (by decide) (by decide) rfl fun us w' hB hG hV => ?_
    have o0 := (frame_old2 (us := us) (a := a0) (show (pcT[0]?).join = none from rfl)).trans k0
    generalize frame pcT a0 us = fr at *
    exact val_C (v := .slice (some ⟨b, o, none⟩) 20 c) (w' := w') (by go_simp) (Below.refl _ _) rfl
  · refine stepC_val [2] (by kernel_rfl) (by decide) (by decide) rfl fun us w' hB hG hV => ?_
    have e2 : us 2 = .slice (some ⟨b, o, none⟩) 20 c := hV 2 (by simp)
    have v2 := (frame_at2 (us := us) hl (show (pcT[11]?).join = some 2 from rfl)).trans e2
    generalize frame pcT a0 us = fr at *
    exact call_C (f := 51) (args := #[.slice (some ⟨b, o, none⟩) 20 c, .int .i64 16]) (by go_simp) ((FD.out w' hG).mono fun e w'' h => ⟨_, h.1, h.2, rfl⟩)
  · refine stepC_val [] (by kernel_rfl) (by decide) (by decide) rfl fun us w' hB hG hV => ?_
    have o0 := (frame_old2 (us := us) (a := a0) (show (pcT[0]?).join = none from rfl)).trans k0
    generalize frame pcT a0 us = fr at *
    exact val_C (v := .slice (some ⟨b, o, none⟩) 20 c) (w' := w') (by go_simp) (Below.refl _ _) rfl
  · refine stepC_val [4] (by kernel_rfl) (by decide) (by decide) rfl fun us w' hB hG hV => ?_
    have e4 : us 4 = .slice (some ⟨b, o, none⟩) 20 c := hV 4 (by simp)
    have v4 := (frame_at2 (us := us) hl (show (pcT[13]?).join = some 4 from rfl)).trans e4
    generalize frame pcT a0 us = fr at *
    exact val_C (v := .pointer (some ⟨b, o + 9, none⟩)) (w' := w') (by go_simp) (Below.refl _ _) rfl
  · refine stepC_val [5] (by kernel_rfl) (by decide) (by decide) rfl fun us w' hB hG hV => ?_
    have e5 : us 5 = .pointer (some ⟨b, o + 9, none⟩) := hV 5 (by simp)
    have v5 := (frame_at2 (us := us) hl (show (pcT[14]?).join = some 5 from rfl)).trans e5
    have hc9 := K9.out w' hG
    generalize frame pcT a0 us = fr at *
    exact val_C (v := .int .u8 pr) (w' := w') (by go_simp) (Below.refl _ _) rfl
  · refine stepC_val [] (by kernel_rfl) (by decide) (by decide) rfl fun us w' hB hG hV => ?_
    have o0 := (frame_old2 (us := us) (a := a0) (show (pcT[0]?).join = none from rfl)).trans k0
    generalize frame pcT a0 us = fr at *
    exact val_C (v := .slice (some ⟨b, o, none⟩) 20 c) (w' := w') (by go_simp) (Below.refl _ _) rfl
  · refine stepC_val [7] (by kernel_rfl) (by decide) (by decide) rfl fun us w' hB hG hV => ?_
    have e7 : us 7 = .slice (some ⟨b, o, none⟩) 20 c := hV 7 (by simp)
    have v7 := (frame_at2 (us := us) hl (show (pcT[16]?).join = some 7 from rfl)).trans e7
    generalize frame pcT a0 us = fr at *
    exact val_C (v := .pointer (some ⟨b, o + 8, none⟩)) (w' := w') (by go_simp) (Below.refl _ _) rfl
  · refine stepC_val [8] (by kernel_rfl) (by decide) (by decide) rfl fun us w' hB hG hV => ?_
    have e8 : us 8 = .pointer (some ⟨b, o + 8, none⟩) := hV 8 (by simp)
    have v8 := (frame_at2 (us := us) hl (show (pcT[17]?).join = some 8 from rfl)).trans e8
    have hc8 := K8.out w' hG
    generalize frame pcT a0 us = fr at *
    exact val_C (v := .int .u8 ho) (w' := w') (by go_simp) (Below.refl _ _) rfl
  · refine stepC_val [] (by kernel_rfl) (by decide) (by decide) rfl fun us w' hB hG hV => ?_
    have o0 := (frame_old2 (us := us) (a := a0) (show (pcT[0]?).join = none from rfl)).trans k0
    generalize frame pcT a0 us = fr at *
    exact val_C (v := .slice (some ⟨b, o, none⟩) 20 c) (w' := w') (by go_simp) (Below.refl _ _) rfl
  · refine stepC_val [10] (by kernel_rfl) (by decide) (by decide) rfl fun us w' hB hG hV => ?_
    have e10 : us 10 = .slice (some ⟨b, o, none⟩) 20 c := hV 10 (by simp)
    have v10 := (frame_at2 (us := us) hl (show (pcT[19]?).join = some 10 from rfl)).trans e10
    generalize frame pcT a0 us = fr at *
    exact call_C (f := 34) (args := #[.slice (some ⟨b, o, none⟩) 20 c, .int .i64 4]) (by go_simp) ((F4.out w' hG).mono fun e w'' h => ⟨_, h.1, h.2, rfl⟩)
  · refine stepC_val [11] (by kernel_rfl) (by decide) (by decide) rfl fun us w' hB hG hV => ?_
    have e11 : us 11 = .int .u16 x4 := hV 11 (by simp)
    have v11 := (frame_at2 (us := us) hl (show (pcT[20]?).join = some 11 from rfl)).trans e11
    have hw := W4.out
    generalize frame pcT a0 us = fr at *
    exact val_C (v := .int .u32 x4) (w' := w') (by go_simp) (Below.refl _ _) rfl
  · refine stepC_val [] (by kernel_rfl) (by decide) (by decide) rfl fun us w' hB hG hV => ?_
    have o6 := (frame_old2 (us := us) (a := a0) (show (pcT[6]?).join = none from rfl)).trans k6
    generalize frame pcT a0 us = fr at *
    exact val_C (v := .int .u16 x6) (w' := w') (by go_simp) (Below.refl _ _) rfl
  · refine stepC_val [13] (by kernel_rfl) (by decide) (by decide) rfl fun us w' hB hG hV => ?_
    have e13 : us 13 = .int .u16 x6 := hV 13 (by simp)
    have v13 := (frame_at2 (us := us) hl (show (pcT[22]?).join = some 13 from rfl)).trans e13
    have ha := A1.out
    generalize frame pcT a0 us = fr at *
    exact val_C (v := .int .u16 y1) (w' := w') (by go_simp) (Below.refl _ _) rfl
  · refine stepC_val [14] (by kernel_rfl) (by decide) (by decide) rfl fun us w' hB hG hV => ?_
    have e14 : us 14 = .int .u16 y1 := hV 14 (by simp)
    have v14 := (frame_at2 (us := us) hl (show (pcT[23]?).join = some 14 from rfl)).trans e14
    have ha := B1h.out
    generalize frame pcT a0 us = fr at *
    exact val_C (v := .bool wh) (w' := w') (by go_simp) (Below.refl _ _) rfl
  · refine stepC_val [] (by kernel_rfl) (by decide) (by decide) rfl fun us w' hB hG hV => ?_
    have o6 := (frame_old2 (us := us) (a := a0) (show (pcT[6]?).join = none from rfl)).trans k6
    generalize frame pcT a0 us = fr at *
    exact val_C (v := .int .u16 x6) (w' := w') (by go_simp) (Below.refl _ _) rfl
  · refine stepC_val [16] (by kernel_rfl) (by decide) (by decide) rfl fun us w' hB hG hV => ?_
    have e16 : us 16 = .int .u16 x6 := hV 16 (by simp)
    have v16 := (frame_at2 (us := us) hl (show (pcT[25]?).join = some 16 from rfl)).trans e16
    have ha := A2h.out
    generalize frame pcT a0 us = fr at *
    exact val_C (v := .int .u16 y2) (w' := w') (by go_simp) (Below.refl _ _) rfl
  · refine stepC_val [17] (by kernel_rfl) (by decide) (by decide) rfl fun us w' hB hG hV => ?_
    have e17 : us 17 = .int .u16 y2 := hV 17 (by simp)
    have v17 := (frame_at2 (us := us) hl (show (pcT[26]?).join = some 17 from rfl)).trans e17
    have ha := B2h.out
    generalize frame pcT a0 us = fr at *
    exact val_C (v := .bool mo) (w' := w') (by go_simp) (Below.refl _ _) rfl
  · refine stepC_val [] (by kernel_rfl) (by decide) (by decide) rfl fun us w' hB hG hV => ?_
    have o6 := (frame_old2 (us := us) (a := a0) (show (pcT[6]?).join = none from rfl)).trans k6
    generalize frame pcT a0 us = fr at *
    exact val_C (v := .int .u16 x6) (w' := w') (by go_simp) (Below.refl _ _) rfl
  · refine stepC_val [19] (by kernel_rfl) (by decide) (by decide) rfl fun us w' hB hG hV => ?_
    have e19 : us 19 = .int .u16 x6 := hV 19 (by simp)
    have v19 := (frame_at2 (us := us) hl (show (pcT[28]?).join = some 19 from rfl)).trans e19
    have ha := A3h.out
    generalize frame pcT a0 us = fr at *
    exact val_C (v := .int .u16 y3) (w' := w') (by go_simp) (Below.refl _ _) rfl
  · refine stepC_val [20] (by kernel_rfl) (by decide) (by decide) rfl fun us w' hB hG hV => ?_
    have e20 : us 20 = .int .u16 y3 := hV 20 (by simp)
    have v20 := (frame_at2 (us := us) hl (show (pcT[29]?).join = some 20 from rfl)).trans e20
    have ha := W3.out
    generalize frame pcT a0 us = fr at *
    exact val_C (v := .int .i64 y3) (w' := w') (by go_simp) (Below.refl _ _) rfl
  · refine stepC_val [21] (by kernel_rfl) (by decide) (by decide) rfl fun us w' hB hG hV => ?_
    have e21 : us 21 = .int .i64 y3 := hV 21 (by simp)
    have v21 := (frame_at2 (us := us) hl (show (pcT[30]?).join = some 21 from rfl)).trans e21
    have ha := M3.out
    have hb := N3.out
    generalize frame pcT a0 us = fr at *
    exact val_C (v := .int .i64 off) (w' := w') (by go_simp) (Below.refl _ _) rfl
  · refine stepC_val [] (by kernel_rfl) (by decide) (by decide) rfl fun us w' hB hG hV => ?_
    have o1 := (frame_old2 (us := us) (a := a0) (show (pcT[1]?).join = none from rfl)).trans k1
    generalize frame pcT a0 us = fr at *
    exact val_C (v := .slice A2 m d) (w' := w') (by go_simp) (Below.refl _ _) rfl
  · refine stepC_val [1, 3, 6, 9, 12, 15, 18, 22, 23] (by kernel_rfl) (by decide) (by decide) rfl fun us w' hB hG hV => ?_
    have e1 : us 1 = .agg S := hV 1 (by simp)
    have v1 := (frame_at2 (us := us) hl (show (pcT[10]?).join = some 1 from rfl)).trans e1
    have e3 : us 3 = .agg D := hV 3 (by simp)
    have v3 := (frame_at2 (us := us) hl (show (pcT[12]?).join = some 3 from rfl)).trans e3
    have e6 : us 6 = .int .u8 pr := hV 6 (by simp)
    have v6 := (frame_at2 (us := us) hl (show (pcT[15]?).join = some 6 from rfl)).trans e6
    have e9 : us 9 = .int .u8 ho := hV 9 (by simp)
    have v9 := (frame_at2 (us := us) hl (show (pcT[18]?).join = some 9 from rfl)).trans e9
    have e12 : us 12 = .int .u32 x4 := hV 12 (by simp)
    have v12 := (frame_at2 (us := us) hl (show (pcT[21]?).join = some 12 from rfl)).trans e12
    have e15 : us 15 = .bool wh := hV 15 (by simp)
    have v15 := (frame_at2 (us := us) hl (show (pcT[24]?).join = some 15 from rfl)).trans e15
    have e18 : us 18 = .bool mo := hV 18 (by simp)
    have v18 := (frame_at2 (us := us) hl (show (pcT[27]?).join = some 18 from rfl)).trans e18
    have e22 : us 22 = .int .i64 off := hV 22 (by simp)
    have v22 := (frame_at2 (us := us) hl (show (pcT[31]?).join = some 22 from rfl)).trans e22
    have e23 : us 23 = .slice A2 m d := hV 23 (by simp)
    have v23 := (frame_at2 (us := us) hl (show (pcT[32]?).join = some 23 from rfl)).trans e23
    generalize frame pcT a0 us = fr at *
    exact val_C (v := .agg C) (w' := w') (built9_run rfl (eval_tmp v1) (eval_tmp v3) (eval_tmp v6) (eval_tmp v9) (eval_tmp v12) (eval_tmp v15) (eval_tmp v18) (eval_tmp v22) (eval_tmp v23) HC.out) (Below.refl _ _) rfl
  · refine stepC_val [] (by kernel_rfl) (by decide) (by decide) rfl fun us w' hB hG hV => ?_
    have o6 := (frame_old2 (us := us) (a := a0) (show (pcT[6]?).join = none from rfl)).trans k6
    generalize frame pcT a0 us = fr at *
    exact val_C (v := .int .u16 x6) (w' := w') (by go_simp) (Below.refl _ _) rfl
  · refine stepC_val [25] (by kernel_rfl) (by decide) (by decide) rfl fun us w' hB hG hV => ?_
    have e25 : us 25 = .int .u16 x6 := hV 25 (by simp)
    have v25 := (frame_at2 (us := us) hl (show (pcT[34]?).join = some 25 from rfl)).trans e25
    have ha := A4.out
    generalize frame pcT a0 us = fr at *
    exact val_C (v := .int .u16 y4) (w' := w') (by go_simp) (Below.refl _ _) rfl
  · refine stepC_val [26] (by kernel_rfl) (by decide) (by decide) rfl fun us w' hB hG hV => ?_
    have e26 : us 26 = .int .u16 y4 := hV 26 (by simp)
    have v26 := (frame_at2 (us := us) hl (show (pcT[35]?).join = some 26 from rfl)).trans e26
    have ha := B4h.out
    generalize frame pcT a0 us = fr at *
    exact val_C (v := .bool q) (w' := w') (by go_simp) (Below.refl _ _) rfl
  · refine stepC_chain 0 rfl (by decide) [24] (by kernel_rfl) (by decide) rfl fun us w' hB hG hV hR => ?_
    have e24 : us 24 = .agg C := hV 24 (by simp)
    have v24 := (frame_at2 (us := us) hl (show (pcT[33]?).join = some 24 from rfl)).trans e24
    have o4 := (frame_old2 (us := us) (a := a0) (show (pcT[4]?).join = none from rfl)).trans k4
    generalize frame pcT a0 us = fr at *
    exact store_J (R := fun v w'' => Below B w' w'' ∧ pcR w.heap.size Z C 1 (upd us 28 v) w'') 28 4 33 rfl w.heap.size C o4 v24 _ _ hR U.out S41.out O.out ⟨below_setRow (Below.refl _ _) (Nat.le_of_eq hBe.out) _, setRow_heap _ _ _ _ _ _ hR⟩
  · refine stepC_val [27] (by kernel_rfl) (by decide) (by decide) rfl fun us w' hB hG hV => ?_
    have e27 : us 27 = .bool q := hV 27 (by simp)
    have v27 := (frame_at2 (us := us) hl (show (pcT[36]?).join = some 27 from rfl)).trans e27
    generalize frame pcT a0 us = fr at *
    exact val_C (v := .bool q) (w' := w') (by go_simp) (Below.refl _ _) rfl
  · intro us w2 hB2 hG hV hR
    have e29 : us 29 = .bool q := hV 29 (by decide) (by decide)
    have hR1 := Lib.hid (show w2.heap[w.heap.size]? = some (.cells C 28 (0, 0)) from hR)
    have HG := Lib.hid hG
    subst ha0
    simp only [frame, pcT, fill]
    rw [e29]
    clear hV hR hG hl k0 k1 k4 k6 e29
    go_wp2_with fail
    refine bodyPost_ret (v := .tuple #[.agg C, .bool q]) (adC.results_cell_tmp Try.results46 _ _ w.heap.size _ _ _ _ _ (by rfl) hR1.out Try.underlying28 rfl U.out (by rfl)) rfl ⟨rfl, ?_⟩
    exact HW.out.trans (HG.out.mono (Nat.le_of_eq hBe.out.symm))
end Go.Proofs.Ytmedccfekfnmlaa.pkC

/-
  How an argument that is a packet is opened.
-/
namespace Go.Proofs.Ytmedccfekfnmlaa.pkC
open Go.ChangeShapes Go.WideShapes Go.ChangeAt Go.RowKit
open Go.Proofs.Ytmedccfekfnmlaa.memC Go.Proofs.Ytmedccfekfnmlaa.genC Go.Proofs.Ytmedccfekfnmlaa.adC
set_option linter.unusedVariables false
theorem is_pkt : Try.prog.underlying 28 = some (.struct (Try.prog.fieldsOf 28)) := by simp [Program.fieldsOf, Try.underlying28]
theorem pkt_load : ((Try.prog.fieldsOf 28)[8]?).map (fun f => (f.type, f.offset)) = some (26, 40) := by kernel_rfl
theorem open_pkt {H : Type} {enc : TypeId × Value → H} {w : World} {base : Nat} {spare : Nat → Bool} {held : Bool} {r : Reach} {b0 : Nat} {v : Value} {d : DataW H} {ps : List MemPlace} (hsp : ∀ b, spare b = true)
    (hval : Value.okWide Try.prog w r b0 28 v) (hd : DataW.Trod enc Try.prog w base spare held 28 v d ps) :
    ∃ (p : Pkt) (A : Option Addr) (n c : Nat) (zs : List Int), v = .agg (pktV p A n c) ∧ p.Ok ∧ n ≤ c ∧ c ≤ 9223372036854775807 ∧ Nums .u8 w w.heap.size A n zs ∧ ∀ x ∈ zs, Byte x := by
  obtain ⟨f8, h8, he⟩ := Option.map_eq_some_iff.1 pkt_load
  obtain ⟨e1, e2⟩ := Prod.mk.inj he
  exact open_packet (tb := 4) (ti := 5) (t32 := 25) (tn := 3) (ts := 26) is_pkt (by kernel_rfl) h8 e1 e2 (by kernel_rfl) (by kernel_rfl) Try.underlying4 Try.underlying5 Try.underlying25 Try.underlying3 Try.underlying26 (by kernel_rfl) hsp hval hd
end Go.Proofs.Ytmedccfekfnmlaa.pkC

/-
  What the calls of ipfour give: a packet that is read, bytes with one hop less.
-/
namespace Go.Proofs.Ytmedccfekfnmlaa.pkC
open Go.ChangeShapes Go.WideShapes Go.ChangeAt Go.RowKit
open Go.Proofs.Ytmedccfekfnmlaa.memC Go.Proofs.Ytmedccfekfnmlaa.genC Go.Proofs.Ytmedccfekfnmlaa.adC
set_option linter.unusedVariables false
def psP (bs : List Int) : Pkt := if psE bs = 0 then pkOf bs else zPkt
def psX (bs : List Int) : List Int := if psE bs = 0 then ldOf bs else []
/-- a packet that was read, and an error -/
def PsR (w : World) (bs : List Int) (e : Ending) (w' : World) : Prop :=
  ∃ A n c, e = .returned (.tuple #[.agg (pktV (psP bs) A n c), .int .i64 (psE bs)]) ∧ Nums .u8 w' w'.heap.size A n (psX bs) ∧ Below w.heap.size w w'
def hpX (bs : List Int) : List Int := if hpE bs = 0 then hpL bs else []
/-- bytes with one hop less, and an error -/
def HpR (w : World) (bs : List Int) (e : Ending) (w' : World) : Prop :=
  ∃ A n c, e = .returned (.tuple #[.slice A n c, .int .i64 (hpE bs)]) ∧ Nums .u8 w' w'.heap.size A n (hpX bs) ∧ Below w.heap.size w w'
theorem psP_ok {bs : List Int} (hy : ∀ x ∈ bs, Byte x) : (psP bs).Ok := by
  unfold psP
  split
  · rename_i h; exact pkOf_ok hy (psE_ok h).1
  · exact zPkt_ok
theorem psX_byte {bs : List Int} (hy : ∀ x ∈ bs, Byte x) : ∀ x ∈ psX bs, Byte x := by
  unfold psX
  split
  · intro x hx; unfold ldOf at hx; exact hy x (List.mem_of_mem_take (List.mem_of_mem_drop hx))
  · simp
theorem layL_byte {p : Pkt} (hp : p.Ok) {n : Nat} {xs : List Int} (hx : ∀ x ∈ xs, Byte x) : ∀ x ∈ layL p n xs, Byte x := by
  unfold layL
  split
  · intro x h
    rcases List.mem_append.1 h with h | h
    · exact headL_byte hp n (ckL_bd p n).1 (ckL_bd p n).2 x h
    · exact hx x h
  · simp
theorem layL_len {p : Pkt} (hp : p.Ok) {n : Nat} {xs : List Int} (hn : xs.length = n) (hm : mayB p n = true) : (layL p n xs).length = 20 + n := by
  unfold layL
  rw [if_pos hm, List.length_append, headL_len hp, hn]
/-- the packet of the statements' probe -/
def kPk : Pkt := ⟨false, zs 16, false, zs 16, 6, 2, 0, false, false, 0⟩
theorem kPk_ok : kPk.Ok := ⟨zs_len 16, zs_len 16, fun x hx => by rw [List.eq_of_mem_replicate hx]; unfold Byte; omega, fun x hx => by rw [List.eq_of_mem_replicate hx]; unfold Byte; omega, by unfold Byte kPk; decide, by unfold Byte kPk; decide, by unfold kPk; decide, by unfold kPk; decide⟩
theorem kPk_may : mayB kPk 2 = true := by decide +kernel
def kX : List Int := [97, 98]
theorem kX_byte : ∀ x ∈ kX, Byte x := by unfold kX Byte; simp
def kB : List Int := layL kPk 2 kX
theorem kB_len : kB.length = 22 := layL_len kPk_ok rfl kPk_may
theorem kB_byte : ∀ x ∈ kB, Byte x := layL_byte kPk_ok kX_byte
theorem kB_read : psE kB = 0 ∧ pkOf kB = kPk ∧ ldOf kB = kX := by
  have h := parse_lay (p := kPk) (xs := kX) kPk_ok kPk_may []
  rw [List.append_nil] at h
  exact h
theorem kB_eq : kB = headL kPk 2 (ckL kPk 2) ++ kX := by unfold kB layL; rw [if_pos kPk_may]
theorem kB_hops : kB.getD 8 0 = 2 := by
  obtain ⟨a0, a1, a2, a3, b0, b1, b2, b3, ea, eb, e⟩ := head_ex kPk_ok kPk_may (ckL kPk 2)
  rw [kB_eq, e]; rfl
theorem kB_hop : hpE kB = 0 := by
  unfold hpE
  rw [kB_read.1, kB_hops]; rfl
theorem kH : hpL kB = hpL kB ∧ (hpL kB).length = 22 ∧ (hpL kB).getD 8 0 = 1 := by
  refine ⟨rfl, by unfold hpL; rw [List.length_set, List.length_set, List.length_set, kB_len], ?_⟩
  unfold hpL
  rw [List.getD_eq_getElem?_getD, List.getElem?_set_ne (by decide), List.getElem?_set_ne (by decide), List.getElem?_set_self (by rw [kB_len]; decide), kB_hops]
  rfl
end Go.Proofs.Ytmedccfekfnmlaa.pkC
