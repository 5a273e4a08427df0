/-
  5 texts of a proof, joined.
-/
import Derived.Test.YtbhcpbihbecphaaMg12
import Derived.Laws.BitsAllLaws
import Derived.Test.YtbhcpbihbecphaaMg10
import Derived.Test.YtbhcpbihbecphaaRows
import Derived.WalkKit
import Derived.ProofKit
import Derived.OpenShut
import Derived.ShutString
import Derived.ChangeOld
import Derived.Below
import Derived.RegionTactic

/-
  The header of a piece is read.
-/
namespace Go.Proofs.Ytbhcpbihbecphaa.sxC
open Go.ChangeShapes Go.WideShapes Go.ChangeAt Go.RowKit
open Go.Proofs.Ytbhcpbihbecphaa.memC Go.Proofs.Ytbhcpbihbecphaa.genC Go.Proofs.Ytbhcpbihbecphaa.adC Go.Proofs.Ytbhcpbihbecphaa.pkC Go.Proofs.Ytbhcpbihbecphaa.freeC
open Go.Proofs.Ytbhcpbihbecphaa.octC (Fr Rd RdD stopped)
set_option linter.unusedVariables false
theorem and_fff8 (n : Nat) (h : n < 65536) : n &&& 65528 = n / 8 * 8 := by
  have e : n / 8 * 8 = (n >>> 3) <<< 3 := by rw [Nat.shiftLeft_eq, Nat.shiftRight_eq_div_pow]
  rw [e]
  apply Nat.eq_of_testBit_eq
  intro i
  rw [Nat.testBit_and, Nat.testBit_shiftLeft, Nat.testBit_shiftRight]
  by_cases h16 : i < 16
  · have t : ∀ i < 16, Nat.testBit 65528 i = decide (3 ≤ i) := by decide
    rw [t i h16]
    by_cases h3 : 3 ≤ i
    · have e3 : 3 + (i - 3) = i := by omega
      simp [h3, e3]
    · simp [h3]
  · have hb : n.testBit i = false := Nat.testBit_lt_two_pow (Nat.lt_of_lt_of_le h (Nat.pow_le_pow_right (n := 2) (by decide) (show 16 ≤ i by omega)))
    have e3 : 3 + (i - 3) = i := by omega
    rw [hb, e3, hb]
    simp
theorem off_and {x : Int} (h0 : 0 ≤ x) (h1 : x ≤ 65535) : bits .and .u64 x 65528 = x / 8 * 8 := by
  rw [Go.u64_and x 65528 h0 (by omega) (by decide) (by decide)]
  have := and_fff8 x.toNat (by omega)
  show ((x.toNat &&& 65528 : Nat) : Int) = _
  rw [this]; omega
theorem more_and {x : Int} (h0 : 0 ≤ x) (h1 : x ≤ 65535) : bits .and .u64 x 1 = x % 2 := by
  rw [Go.u64_and x 1 h0 (by omega) (by decide) (by decide)]
  have : x.toNat &&& 1 = x.toNat % 2 := Nat.and_one_is_mod _
  show ((x.toNat &&& 1 : Nat) : Int) = _
  rw [this]; omega
theorem num_two (q B : Nat) (bs : List Int) (size : Int) (s : Nat) (w : World) (h : RdD w q B bs) (h0 : 0 < size) (h2 : size ≤ 9223372036854775807) (hs : octC.fitN size = s) (hm : bs.length ≤ 100000) (hy : ∀ x ∈ bs, Byte x) :
    Calls Try.prog 43 #[.pointer (some ⟨q, 0, none⟩), .int .i64 size] w fun e w' => (s ≤ bs.length ∧ octC.NumD w q B bs s e w') ∨ (bs.length < s ∧ e = stopped ∧ w = w') := by
  subst hs
  by_cases hl : bs.length < octC.fitN size
  · exact (octC.num_stop q bs size w h.rd (by omega) h2 hl).mono fun e w' h => .inr ⟨hl, h⟩
  · exact (octC.num_okD q B bs size w h h0 h2 (by omega) hm hy).mono fun e w' h => .inl ⟨by omega, h⟩
theorem pkt_set {p : Pkt} (hp : p.Ok) (A : Option Addr) (n c k : Nat) (v : Value) (p' : Pkt) (e1 : p'.s = p.s) (e2 : p'.a = p.a) (e3 : p'.t = p.t) (e4 : p'.b = p.b) (A' : Option Addr) (n' c' : Nat) (h : (pktT p A n c).set k v = pktT p' A' n' c') : (pktV p A n c).setIfInBounds (34 + k) v = pktV p' A' n' c' := by
  unfold pktV pktL
  rw [List.setIfInBounds_toArray, e1, e2, e3, e4]
  have l1 := adrC_len (s := p.s) hp.la
  have l2 := adrC_len (s := p.t) hp.lb
  rw [List.set_append_right _ _ (by omega), List.set_append_right _ _ (by omega), l1, l2]
  rw [show 34 + k - 17 - 17 = k by omega, h]
/-- a reading's state: what comes next, what is left, and the packet so far -/
structure CuS (w : World) (g q B gp : Nat) (y : Int) (X : List Int) (p : Pkt) (w' : World) : Prop where
  rb : RdB w' g q y
  rd : RdD w' q B X
  pk : w'.heap[gp]? = some (.cells (pktV p none 0 0) 28 (0, 0))
  fr : Fr (fun k => k = q ∨ k = g ∨ k = gp) w w'
section
variable {w w1 w2 : World} {g q B gp : Nat} {y : Int} {X Y : List Int} {p : Pkt}
theorem CuS.next (h : CuS w g q B gp y X p w1) (hn : g ≠ q) (hq : gp ≠ q) (hR : RdD w2 q B Y) (F : Fr (· = q) w1 w2) : CuS w g q B gp y Y p w2 :=
  ⟨h.rb.fr F hn, hR, F.row h.pk hq, h.fr.trans (F.mono fun k _ e => .inl e)⟩
theorem CuS.nxt (h : CuS w g q B gp y X p w1) (hn : g ≠ q) (hB : B ≤ g) (hgg : gp ≠ g) (z : Int) : CuS w g q B gp z X p (w1.setCell ⟨g, 1, none⟩ (.int .u8 z)) :=
  ⟨h.rb.set z, rdD_set h.rd _ hn hB, (Below.heap_setCell _ _ _ _ hgg).trans h.pk, fr_set h.fr (.inr (.inl rfl)) _⟩
theorem CuS.set (h : CuS w g q B gp y X p w1) (hp : p.Ok) (hq : gp ≠ q) (hgg : gp ≠ g) (hB : B ≤ gp) (k : Nat) (v : Value) (p' : Pkt) (e1 : p'.s = p.s) (e2 : p'.a = p.a) (e3 : p'.t = p.t) (e4 : p'.b = p.b) (e : (pktT p none 0 0).set k v = pktT p' none 0 0) : CuS w g q B gp y X p' (w1.setCell ⟨gp, 34 + k, none⟩ v) :=
  ⟨(Below.heap_setCell _ _ _ _ (fun q => hgg q.symm)).trans h.rb, rdD_set h.rd _ hq hB, by rw [heap_setCell_same w1 gp (34 + k) _ _ _ h.pk, pkt_set hp none 0 0 k v p' e1 e2 e3 e4 none 0 0 e], fr_set h.fr (.inr (.inr rfl)) _⟩
theorem CuS.cell (h : CuS w g q B gp y X p w1) {k : Nat} {v : Value} (hc : (pktV p none 0 0)[k]? = some v) : w1.cell? ⟨gp, k, none⟩ = some v := PkC.cell h.pk hc
theorem CuS.frozen (h : CuS w g q B gp y X p w1) (k : Nat) : w1.frozen? ⟨gp, k, none⟩ = false := frozen_of_row w1 gp k _ _ h.pk
end
/-- what a piece's header tells of a packet -/
def cutP (p : Pkt) (bs : List Int) : Pkt := { p with whole := false, more := decide (bs.getD 3 0 % 2 = 1), off := w2 bs 2 / 8 * 8, id := w4 bs 4 }
def CuR (w : World) (g q B gp : Nat) (p : Pkt) (bs : List Int) (e : Ending) (w' : World) : Prop :=
  (8 ≤ bs.length ∧ e = .returned (.tuple #[]) ∧ CuS w g q B gp (bs.getD 0 0) (bs.drop 8) (cutP p bs) w') ∨ (bs.length < 8 ∧ e = stopped ∧ Fr (fun k => k = q ∨ k = g ∨ k = gp) w w')
set_option maxRecDepth 100000 in
set_option maxHeartbeats 1000000 in
theorem cut_any (g q B gp : Nat) (x : Int) (bs : List Int) (p : Pkt) (w : World) (hg : RdB w g q x) (h : RdD w q B bs) (hpk : w.heap[gp]? = some (.cells (pktV p none 0 0) 28 (0, 0))) (hp : p.Ok) (hm : bs.length ≤ 100000) (hy : ∀ x ∈ bs, Byte x) (hn : g ≠ q) (hB : B ≤ g) (hq : gp ≠ q) (hgg : gp ≠ g) (hBp : B ≤ gp) :
    Calls Try.prog 52 #[.pointer (some ⟨g, 0, none⟩), .pointer (some ⟨gp, 0, none⟩)] w (CuR w g q B gp p bs) := by
  have ydrop : ∀ k, ∀ v ∈ bs.drop k, Byte v := fun k v hv => hy v (List.mem_of_mem_drop hv)
  have mdrop : ∀ k, (bs.drop k).length ≤ 100000 := fun k => by rw [List.length_drop]; omega
  have HS := Lib.hid (show CuS w g q B gp x bs p w from ⟨hg, h, hpk, Fr.refl _⟩)
  have T0 := octet_two g q B x bs w hg h hm hy
  unfold OcR at T0
  obtain ⟨y, hy0⟩ : ∃ y, y = bs.getD 0 0 := ⟨_, rfl⟩
  rw [← hy0] at T0
  have T0 := Lib.hid T0
  have YD := Lib.hid ydrop
  have MD := Lib.hid mdrop
  have HP := Lib.hid hp
  have NE := Lib.hid hn
  have HB := Lib.hid hB
  have HQ := Lib.hid hq
  have HG := Lib.hid hgg
  have HBP := Lib.hid hBp
  obtain ⟨bv0, bv1⟩ := w2_bd hy 2
  obtain ⟨iv0, iv1⟩ := w4_bd hy 4
  have LD := Lib.hid (fun k => (show (bs.drop k).length = bs.length - k from List.length_drop))
  have A1 := more_and bv0 bv1
  have A2 := off_and bv0 bv1
  have WO := Lib.hid (show IntKind.i64.wrap (w2 bs 2 / 8 * 8) = w2 bs 2 / 8 * 8 from IntWalk.i64_in _ (by omega))
  have WI := Lib.hid (show IntKind.u32.wrap (w4 bs 4) = w4 bs 4 from IntWalk.u32_in _ (by omega))
  have hmo : decide (bs.getD 3 0 % 2 = 1) = (w2 bs 2 % 2 != 0) := by
    have e : w2 bs 2 % 2 = bs.getD 3 0 % 2 := by show (bs.getD 2 0 * 256 + bs.getD 3 0) % 2 = _; omega
    rw [e]
    have hh := Int.emod_two_eq (bs.getD 3 0)
    rcases hh with h | h <;> rw [h] <;> rfl
  have p1 : ({ p with whole := false } : Pkt).Ok := ⟨hp.la, hp.lb, hp.ya, hp.yb, hp.proto, hp.hops, hp.id, hp.off⟩
  have p2 : ∀ b, ({ p with whole := false, more := b } : Pkt).Ok := fun b => ⟨hp.la, hp.lb, hp.ya, hp.yb, hp.proto, hp.hops, hp.id, hp.off⟩
  have p3 : ∀ b, ({ p with whole := false, more := b, off := w2 bs 2 / 8 * 8 } : Pkt).Ok := fun b => ⟨hp.la, hp.lb, hp.ya, hp.yb, hp.proto, hp.hops, hp.id, by show -9223372036854775808 ≤ w2 bs 2 / 8 * 8 ∧ w2 bs 2 / 8 * 8 ≤ 9223372036854775807; omega⟩
  have P1 := Lib.hid p1
  have P2 := Lib.hid p2
  have P3 := Lib.hid p3
  have HMO := Lib.hid hmo
  have eg2 : ∀ X : List Int, (w2 (bs.drop 2) 0 = w2 bs 2) ∧ w4 (bs.drop 4) 0 = w4 bs 4 := fun _ => ⟨by unfold w2; simp only [List.getD_eq_getElem?_getD, List.getElem?_drop], by unfold w4 w2; simp only [List.getD_eq_getElem?_getD, List.getElem?_drop]⟩
  have EG := Lib.hid (eg2 [])
  have d11 : (bs.drop 1).drop 1 = bs.drop 2 := by rw [List.drop_drop]
  have d22 : (bs.drop 2).drop 2 = bs.drop 4 := by rw [List.drop_drop]
  have d44 : (bs.drop 4).drop 4 = bs.drop 8 := by rw [List.drop_drop]
  have D1 := Lib.hid d11
  have D2 := Lib.hid d22
  have D4 := Lib.hid d44
  have A1h := Lib.hid A1
  have A2h := Lib.hid A2
  unfold CuR cutP
  rw [hmo, ← hy0]
  obtain ⟨v, hv⟩ : ∃ v, v = w2 bs 2 := ⟨_, rfl⟩
  obtain ⟨i, hi⟩ : ∃ i, i = w4 bs 4 := ⟨_, rfl⟩
  rw [← hv] at A1h A2h WO P3 EG
  rw [← hv, ← hi]
  rw [← hi] at WI EG
  obtain ⟨o, ho⟩ : ∃ o, o = v / 8 * 8 := ⟨_, rfl⟩
  obtain ⟨r, hr⟩ : ∃ r, r = v % 2 := ⟨_, rfl⟩
  rw [← ho] at A2h WO P3
  rw [← hr] at A1h
  rw [← ho, ← hr]
  obtain ⟨mo, hmq⟩ : ∃ mo : Bool, mo = (r != 0) := ⟨_, rfl⟩
  have EM := Lib.hid hmq.symm
  rw [← hmq]
  clear hmq
  clear hg h hpk hp hm hy hn hB hq hgg hBp bv0 bv1 iv0 iv1 hmo p1 p2 p3 ydrop mdrop eg2 d11 d22 d44 hv hi ho hr A1 A2 HMO hy0
  go_enter Try.func52, Try.ntmps52
  go_upto_region 1 with (first
    | (go_at_call 44; (refine T0.out.mono ?_); rintro e w1 (⟨hl, rfl, R, F⟩ | ⟨hl, he, rfl⟩)
       rotate_left
       · rw [octC.stopped_eq] at he
         subst he
         exact ⟨rfl, .inr ⟨by omega, rfl, HS.out.fr⟩⟩
       have S1 := Lib.hid (HS.out.next NE.out HQ.out R F)
       have c1 := S1.out.rb.nxt
       have f1 := S1.out.rb.frozen (k := 1)
       clear R F hl))
  have S2 := Lib.hid (S1.out.nxt NE.out HB.out HG.out y)
  clear T0 c1 f1 S1 HS
  generalize w1.setCell ⟨g, 1, none⟩ (.int .u8 y) = w2' at *
  have T1 := Lib.hid (octet_two g q B y (bs.drop 1) w2' S2.out.rb S2.out.rd (MD.out 1) (YD.out 1))
  go_upto_region 2 with (first
    | (go_at_call 44; (refine T1.out.mono ?_); rintro e w3 (⟨hl, rfl, R, F⟩ | ⟨hl, he, rfl⟩)
       rotate_left
       · rw [octC.stopped_eq] at he
         subst he
         exact ⟨rfl, .inr ⟨by rw [LD.out] at hl; omega, rfl, S2.out.fr⟩⟩
       rw [D1.out] at R
       have S3 := Lib.hid (S2.out.next NE.out HQ.out R F)
       clear R F hl))
  clear T1 S2
  have T2 := Lib.hid (num_two q B (bs.drop 2) 2 2 w3 S3.out.rd (by decide) (by decide) fit2 (MD.out 2) (YD.out 2))
  have c0 := S3.out.rb.ptr
  go_upto_region 3 with (first
    | (go_at_call 43; (refine T2.out.mono ?_); rintro e w4' (⟨hl, he, R, F⟩ | ⟨hl, he, rfl⟩)
       rotate_left
       · rw [octC.stopped_eq] at he
         subst he
         exact ⟨rfl, .inr ⟨by rw [LD.out] at hl; omega, rfl, S3.out.fr⟩⟩
       rw [getZ2 hl, EG.out.1] at he
       subst he
       rw [D2.out] at R
       have S4 := Lib.hid (S3.out.next NE.out HQ.out R F)
       clear R F hl))
  clear T2 S3 c0
  have k37 := S4.out.cell (pkC HP.out none 0 0).whole
  have k38 := S4.out.cell (pkC HP.out none 0 0).more
  have k39 := S4.out.cell (pkC HP.out none 0 0).off
  have f37 := S4.out.frozen 37
  have f38 := S4.out.frozen 38
  have f39 := S4.out.frozen 39
  have a1 := A1h.out
  have a2 := A2h.out
  have wo := WO.out
  have em := EM.out
  go_upto_region 4 with fail
  have S5 := Lib.hid (S4.out.set HP.out HQ.out HG.out HBP.out 3 (.bool false) { p with whole := false } rfl rfl rfl rfl rfl)
  have S6 := Lib.hid (S5.out.set P1.out HQ.out HG.out HBP.out 4 (.bool mo) { p with whole := false, more := mo } rfl rfl rfl rfl rfl)
  have S7 := Lib.hid (S6.out.set (P2.out mo) HQ.out HG.out HBP.out 5 (.int .i64 o) { p with whole := false, more := mo, off := o } rfl rfl rfl rfl rfl)
  clear k37 k38 k39 f37 f38 f39 S4 S5 S6 a1 a2 wo em
  generalize ((w4'.setCell ⟨gp, 34 + 3, none⟩ (.bool false)).setCell ⟨gp, 34 + 4, none⟩ (.bool mo)).setCell ⟨gp, 34 + 5, none⟩ (.int .i64 o) = w5 at *
  have T3 := Lib.hid (num_two q B (bs.drop 4) 4 4 w5 S7.out.rd (by decide) (by decide) fit4 (MD.out 4) (YD.out 4))
  have c0 := S7.out.rb.ptr
  have wi := WI.out
  go_wp2_with (first
    | (go_at_call 43; (refine T3.out.mono ?_); rintro e w6 (⟨hl, he, R, F⟩ | ⟨hl, he, rfl⟩)
       rotate_left
       · rw [octC.stopped_eq] at he
         subst he
         exact ⟨rfl, .inr ⟨by rw [LD.out] at hl; omega, rfl, S7.out.fr⟩⟩
       rw [getZ4 hl, EG.out.2] at he
       subst he
       rw [D4.out] at R
       have S8 := Lib.hid (S7.out.next NE.out HQ.out R F)
       have k36 := S8.out.cell (pkC (P3.out mo) none 0 0).id
       have f36 := S8.out.frozen 36
       have HL := Lib.hid hl
       clear R F hl))
  go_end0
  exact .inl ⟨by have := HL.out; rw [LD.out] at this; omega, rfl, S8.out.set (P3.out mo) HQ.out HG.out HBP.out 2 (.int .u32 i) { p with whole := false, more := mo, off := o, id := i } rfl rfl rfl rfl rfl⟩
end Go.Proofs.Ytbhcpbihbecphaa.sxC

/-
  Which kinds are headers that are gone past: the program's and the document's.
-/
namespace Go.Proofs.Ytbhcpbihbecphaa.sxC
open Go.ChangeShapes Go.WideShapes Go.ChangeAt Go.RowKit
open Go.Proofs.Ytbhcpbihbecphaa.memC Go.Proofs.Ytbhcpbihbecphaa.genC Go.Proofs.Ytbhcpbihbecphaa.adC Go.Proofs.Ytbhcpbihbecphaa.pkC
set_option linter.unusedVariables false
theorem retb {a b : Bool} (h : a = b) : Ending.returned (.bool a) = .returned (.bool b) := by rw [h]
set_option maxRecDepth 100000 in
theorem tells_any (x : Int) (w : World) : Calls Try.prog 37 #[.int .u8 x] w fun e w' => e = .returned (.bool (tellB x)) ∧ w = w' := by
  unfold tellB
  by_cases h0 : x = 0
  · subst h0
    go_enter Try.func37, Try.ntmps37
    go_wp2_with fail
    go_ret
    exact ⟨retb (by decide), rfl⟩
  · have q0 : (x == 0) = false := beq_eq_false_iff_ne.2 h0
    by_cases h1 : x = 43
    · subst h1
      go_enter Try.func37, Try.ntmps37
      go_wp2_with fail
      go_ret
      exact ⟨retb (by decide), rfl⟩
    · have q1 : (x == 43) = false := beq_eq_false_iff_ne.2 h1
      have hv : (decide (x = 0) || (decide (x = 43) || decide (x = 60))) = (x == 60) := by rw [decide_eq_false h0, decide_eq_false h1]; rfl
      rw [hv]
      clear hv h0 h1
      go_enter Try.func37, Try.ntmps37
      go_wp2_with fail
      go_ret
      exact ⟨rfl, rfl⟩
set_option maxRecDepth 100000 in
theorem header_any (x : Int) (w : World) : Calls Try.prog 27 #[.int .u8 x] w fun e w' => e = .returned (.bool (knownB x)) ∧ w = w' := by
  unfold knownB
  have T := Lib.hid (tells_any x w)
  by_cases h0 : x = 44
  · subst h0
    go_enter Try.func27, Try.ntmps27
    go_wp2_with fail
    go_ret
    exact ⟨retb (by decide), rfl⟩
  · have q0 : (x == 44) = false := beq_eq_false_iff_ne.2 h0
    rw [decide_eq_false h0]
    generalize tellB x = t at *
    clear h0
    go_enter Try.func27, Try.ntmps27
    go_wp2_with (first
      | (go_at_call 37; (refine T.out.mono ?_); rintro e w' ⟨rfl, rfl⟩))
    go_ret
    exact ⟨rfl, rfl⟩
set_option maxRecDepth 100000 in
theorem known_any (x : Int) (w : World) : Calls Try.prog 28 #[.int .u8 x] w fun e w' => e = .returned (.bool (knownB x)) ∧ w = w' := by
  unfold knownB tellB
  by_cases h0 : x = 0
  · subst h0
    go_enter Try.func28, Try.ntmps28
    go_wp2_with fail
    go_ret
    exact ⟨retb (by decide), rfl⟩
  · have q0 : (x == 0) = false := beq_eq_false_iff_ne.2 h0
    by_cases h1 : x = 43
    · subst h1
      go_enter Try.func28, Try.ntmps28
      go_wp2_with fail
      go_ret
      exact ⟨retb (by decide), rfl⟩
    · have q1 : (x == 43) = false := beq_eq_false_iff_ne.2 h1
      by_cases h2 : x = 60
      · subst h2
        go_enter Try.func28, Try.ntmps28
        go_wp2_with fail
        go_ret
        exact ⟨retb (by decide), rfl⟩
      · have q2 : (x == 60) = false := beq_eq_false_iff_ne.2 h2
        have hv : (decide (x = 44) || (decide (x = 0) || (decide (x = 43) || decide (x = 60)))) = (x == 44) := by rw [decide_eq_false h0, decide_eq_false h1, decide_eq_false h2]; show (decide (x = 44) || false) = _; rw [Bool.or_false]; rfl
        rw [hv]
        clear hv h0 h1 h2
        go_enter Try.func28, Try.ntmps28
        go_wp2_with fail
        go_ret
        exact ⟨rfl, rfl⟩
end Go.Proofs.Ytbhcpbihbecphaa.sxC

/-
  The headers are gone past.
-/
namespace Go.Proofs.Ytbhcpbihbecphaa.sxC
open Go.ChangeShapes Go.WideShapes Go.ChangeAt Go.RowKit
open Go.Proofs.Ytbhcpbihbecphaa.memC Go.Proofs.Ytbhcpbihbecphaa.genC Go.Proofs.Ytbhcpbihbecphaa.adC Go.Proofs.Ytbhcpbihbecphaa.pkC Go.Proofs.Ytbhcpbihbecphaa.freeC
open Go.Proofs.Ytbhcpbihbecphaa.octC (Fr Rd RdD stopped)
set_option linter.unusedVariables false
/-- what the headers tell of a packet -/
def finP (p : Pkt) (h : Hd) : Pkt := { p with whole := h.whole, more := h.more, off := h.off, id := h.id }
/-- a packet of which nothing is known yet -/
def Fresh (p : Pkt) : Prop := p.whole = true ∧ p.more = false ∧ p.off = 0 ∧ p.id = 0
theorem fin_done {p : Pkt} (h : Fresh p) (y : Int) (X : List Int) : finP p (doneH y X) = p := by
  obtain ⟨s, a, t, b, pr, ho, id, wh, mo, of⟩ := p
  obtain ⟨h1, h2, h3, h4⟩ := h
  simp only at h1 h2 h3 h4
  subst h1; subst h2; subst h3; subst h4
  rfl
theorem CuS.trans {w w1 w2 : World} {g q B gp : Nat} {y z : Int} {X Y : List Int} {p p' : Pkt} (h : CuS w g q B gp y X p w1) (h' : CuS w1 g q B gp z Y p' w2) : CuS w g q B gp z Y p' w2 :=
  ⟨h'.rb, h'.rd, h'.pk, h.fr.trans h'.fr⟩
def HdR (w : World) (g q B gp : Nat) (p : Pkt) (H : Hd) (e : Ending) (w' : World) : Prop :=
  (H.e = 4 ∧ e = stopped ∧ Fr (fun k => k = q ∨ k = g ∨ k = gp) w w') ∨ (H.e ≠ 4 ∧ e = .returned (.int .i64 H.e) ∧ Fr (fun k => k = q ∨ k = g ∨ k = gp) w w' ∧ (H.e = 0 → CuS w g q B gp H.proto H.rest (finP p H) w'))
/-- the state in the midst of the headers -/
def HdS (w : World) (g q B gp : Nat) (p : Pkt) (H : Hd) (i : Nat) (wr : World) : Prop :=
  (∃ y X, i ≤ 8 ∧ CuS w g q B gp y X p wr ∧ hdrs (8 - i) (decide (i = 0)) y X = H ∧ (∀ v ∈ X, Byte v) ∧ X.length ≤ 100000) ∨ (H.e = 0 ∧ H.whole = false ∧ CuS w g q B gp H.proto H.rest (finP p H) wr)
set_option maxRecDepth 100000 in
set_option maxHeartbeats 2000000 in
theorem headers_any (g q B gp : Nat) (x : Int) (bs : List Int) (p : Pkt) (w : World) (hg : RdB w g q x) (h : RdD w q B bs) (hpk : w.heap[gp]? = some (.cells (pktV p none 0 0) 28 (0, 0))) (hp : p.Ok) (hf : Fresh p) (hm : bs.length ≤ 100000) (hy : ∀ x ∈ bs, Byte x) (hn : g ≠ q) (hB : B ≤ g) (hq : gp ≠ q) (hgg : gp ≠ g) (hBp : B ≤ gp) :
    Calls Try.prog 46 #[.pointer (some ⟨g, 0, none⟩), .pointer (some ⟨gp, 0, none⟩)] w (HdR w g q B gp p (hdrs 8 true x bs)) := by
  have S0 := Lib.hid (show HdS w g q B gp p (hdrs 8 true x bs) 0 w from .inl ⟨x, bs, by omega, ⟨hg, h, hpk, Fr.refl _⟩, rfl, hy, hm⟩)
  generalize hdrs 8 true x bs = H at *
  have HP := Lib.hid hp
  have HF := Lib.hid hf
  have NE := Lib.hid hn
  have HB := Lib.hid hB
  have HQ := Lib.hid hq
  have HG := Lib.hid hgg
  have HBP := Lib.hid hBp
  clear hg h hpk hp hf hm hy hn hB hq hgg hBp
  go_enter Try.func46, Try.ntmps46
  go_wp2_with fail
  go_loopw [5] (fun v wr => ∃ i : Nat, i ≤ 9 ∧ v = .int .i64 i ∧ HdS w g q B gp p H i wr) (fun v _ => 10 - (intOf v).toNat)
  case atStart => exact ⟨0, by omega, rfl, S0.out⟩
  case round =>
    obtain ⟨i, hi, rfl, KK⟩ := hrel
    rcases KK with ⟨y, X, hi8, S, hH, hy, hm⟩ | ⟨h1, h2, S⟩
    · have HS := Lib.hid S
      have HH := Lib.hid hH
      have k37 : wr.cell? ⟨gp, 37, none⟩ = some (.bool true) := by have := S.cell (pkC HP.out none 0 0).whole; rw [HF.out.1] at this; exact this
      have c1 := S.rb.nxt
      have KN := Lib.hid (header_any y wr)
      obtain ⟨kb, hkb⟩ : ∃ kb, kb = knownB y := ⟨_, rfl⟩
      rw [← hkb] at KN
      have EK := Lib.hid hkb.symm
      have HY := Lib.hid hy
      have HM := Lib.hid hm
      have I8 := Lib.hid hi8
      clear S hH hy hm hkb
      cases kb
      · go_wp2_with (first
          | (go_at_call 27; (refine KN.out.mono ?_); rintro e w' ⟨rfl, rfl⟩))
        go_ret
        have e1 := HH.out.symm.trans (hdrs_no _ _ X EK.out)
        subst e1
        exact .inr ⟨(by show (0 : Int) ≠ 4; decide), rfl, HS.out.fr, fun _ => by rw [fin_done HF.out]; exact HS.out⟩
      by_cases h8 : i = 8
      · subst h8
        go_wp2_with (first
          | (go_at_call 27; (refine KN.out.mono ?_); rintro e w' ⟨rfl, rfl⟩))
        go_ret
        have e1 := HH.out.symm.trans (hdrs_many _ X EK.out)
        subst e1
        exact .inr ⟨(by show (5 : Int) ≠ 4; decide), rfl, HS.out.fr, fun h => absurd h (by show (5 : Int) ≠ 0; decide)⟩
      have q8 : ((i : Int) == 8) = false := beq_eq_false_iff_ne.2 (by omega)
      obtain ⟨k, hk⟩ : ∃ k, 8 - i = k + 1 := ⟨7 - i, by omega⟩
      have hk1 : 8 - (i + 1) = k := by omega
      have HK1 := Lib.hid hk1
      rw [hk] at HH
      have iz : (i : Int) < 8 := by omega
      have LI := Lib.hid (show i + 1 ≤ 8 by omega)
      clear hk hk1 h8 hi8 hi
      by_cases h0 : y = 0 ∧ 0 < i
      · obtain ⟨rfl, hi0⟩ := h0
        have g0 : (0 : Int) < (i : Int) := by omega
        have e1 := HH.out.symm.trans (show hdrs (k + 1) (decide (i = 0)) 0 X = badH 3 by rw [decide_eq_false (by omega)]; exact hdrs_form k X)
        have E1 := Lib.hid e1
        clear e1 hi0
        go_wp2_with (first
          | (go_at_call 27; (refine KN.out.mono ?_); rintro e w' ⟨rfl, rfl⟩))
        go_ret
        have e1 := E1.out
        subst e1
        exact .inr ⟨(by show (3 : Int) ≠ 4; decide), rfl, HS.out.fr, fun h => absurd h (by show (3 : Int) ≠ 0; decide)⟩
      by_cases h44 : y = 44
      · subst h44
        have CU := Lib.hid (cut_any g q B gp 44 X p wr HS.out.rb HS.out.rd HS.out.pk HP.out HM.out HY.out NE.out HB.out HQ.out HG.out HBP.out)
        clear h0
        go_wp2_with (first
          | (go_at_call 27; (refine KN.out.mono ?_); rintro e w' ⟨rfl, rfl⟩)
          | (go_at_call 52; (refine CU.out.mono ?_); rintro e w1 (⟨hl, rfl, S⟩ | ⟨hl, he, F⟩)
             rotate_left
             · rw [octC.stopped_eq] at he
               subst he
               have e1 := HH.out.symm.trans (hdrs_cut_stop k _ hl)
               subst e1
               exact ⟨rfl, .inl ⟨rfl, rfl, HS.out.fr.trans F⟩⟩
             have S1 := Lib.hid (HS.out.trans S)
             have L1 := Lib.hid hl
             clear S hl))
        go_roundw
        case rel =>
          have e1 := HH.out.symm.trans (hdrs_cut k _ L1.out)
          refine ⟨i + 1, by have := LI.out; omega, by go_num, .inr ?_⟩
          rw [e1]
          exact ⟨rfl, rfl, S1.out⟩
        case measure => simp [intOf]; omega
      · have q44 : (y == 44) = false := beq_eq_false_iff_ne.2 h44
        have ht : tellB y = true := by have := knownB_iff.1 EK.out; rw [tellB_iff]; omega
        have hf0 : y = 0 → decide (i = 0) = true := fun e => decide_eq_true (by omega)
        have SK := Lib.hid (skip_any g q B y X wr HS.out.rb HS.out.rd HM.out HY.out NE.out HB.out)
        have HT := Lib.hid ht
        have HF0 := Lib.hid hf0
        have fin : ∀ w1, ((szN X ≤ X.length ∧ RdQ wr g q B (X.getD 0 0) (X.drop (szN X)) w1)) → HdS w g q B gp p H (i + 1) w1 := fun w1 ⟨hl, S⟩ => by
          have e1 := HH.out.symm.trans (hdrs_skip k HT.out HF0.out hl)
          refine .inl ⟨X.getD 0 0, X.drop (szN X), LI.out, ⟨S.rb, S.rd, S.fr.row HS.out.pk (by rintro (h | h); exact HQ.out h; exact HG.out h), HS.out.fr.trans (S.fr.mono fun k _ h => by rcases h with h | h; exact .inl h; exact .inr (.inl h))⟩, ?_, fun v hv => HY.out v (List.mem_of_mem_drop hv), by rw [List.length_drop]; have := HM.out; omega⟩
          rw [HK1.out, decide_eq_false (by omega), ← e1]
        have FIN := Lib.hid fin
        have STP := Lib.hid (fun hl : X.length < szN X => HH.out.symm.trans (hdrs_skip_stop k HT.out HF0.out hl))
        clear fin ht hf0 h44
        by_cases hi0 : y = 0
        · subst hi0
          have hz : i = 0 := by omega
          subst hz
          clear h0
          go_wp2_with (first
            | (go_at_call 27; (refine KN.out.mono ?_); rintro e w' ⟨rfl, rfl⟩)
            | (go_at_call 53; (refine SK.out.mono ?_); rintro e w1 (⟨hl, rfl, S⟩ | ⟨hl, he, F⟩)
               rotate_left
               · rw [octC.stopped_eq] at he
                 subst he
                 have e1 := STP.out hl
                 subst e1
                 exact ⟨rfl, .inl ⟨rfl, rfl, HS.out.fr.trans (F.mono fun k _ h => by rcases h with h | h; exact .inl h; exact .inr (.inl h))⟩⟩
               have S1 := Lib.hid (FIN.out w1 ⟨hl, S⟩)
               clear S hl))
          go_roundw
          case rel => exact ⟨0 + 1, by omega, rfl, S1.out⟩
          case measure => simp [intOf]
        · have q0 : (y == 0) = false := beq_eq_false_iff_ne.2 hi0
          clear h0 hi0
          go_wp2_with (first
            | (go_at_call 27; (refine KN.out.mono ?_); rintro e w' ⟨rfl, rfl⟩)
            | (go_at_call 53; (refine SK.out.mono ?_); rintro e w1 (⟨hl, rfl, S⟩ | ⟨hl, he, F⟩)
               rotate_left
               · rw [octC.stopped_eq] at he
                 subst he
                 have e1 := STP.out hl
                 subst e1
                 exact ⟨rfl, .inl ⟨rfl, rfl, HS.out.fr.trans (F.mono fun k _ h => by rcases h with h | h; exact .inl h; exact .inr (.inl h))⟩⟩
               have S1 := Lib.hid (FIN.out w1 ⟨hl, S⟩)
               clear S hl))
          go_roundw
          case rel => exact ⟨i + 1, by have := LI.out; omega, by go_num, S1.out⟩
          case measure => simp [intOf]; omega
    · have k37 : wr.cell? ⟨gp, 37, none⟩ = some (.bool false) := by
        have hp2 : (finP p H).whole = false := h2
        have : (pktV (finP p H) none 0 0)[37]? = some (.bool (finP p H).whole) := by
          have t := pktL_tail (p := finP p H) HP.out.la HP.out.lb none 0 0 3
          unfold pktV
          simpa [pktT] using t
        rw [hp2] at this
        exact S.cell this
      have HS := Lib.hid S
      have H1 := Lib.hid h1
      clear S h1 h2
      go_wp2_with fail
      go_ret
      exact .inr ⟨by rw [H1.out]; decide, by rw [H1.out]; rfl, HS.out.fr, fun _ => HS.out⟩
end Go.Proofs.Ytbhcpbihbecphaa.sxC

/-
  Which operation a walk stands at: told by its form alone, so that an arm that does not fit falls at once.
-/
namespace Go.Proofs.Ytbhcpbihbecphaa.atC
open Go.ChangeShapes Go.WideShapes Go.ChangeAt Go.RowKit
section
variable {P : Program} {ops : Array Oper} {rest : List Oper} {a : Act} {w : World} {Q : Exit → Act → World → Prop} {d : Option Tmp} {t : TypeId} {p : String} {f : Array Edge} {g : Option (Nat × Bool)}
theorem at_load (ty : TypeId) (s : Tmp) (h : wpList P ops Q (⟨d, .load ty (.tmp s), t, p, f, g⟩ :: rest) a w) : wpList P ops Q (⟨d, .load ty (.tmp s), t, p, f, g⟩ :: rest) a w := h
theorem at_bin {x y : Operand} {r : TypeId} (o : BinOp) (ty : TypeId) (h : wpList P ops Q (⟨d, .binOp o ty x y r, t, p, f, g⟩ :: rest) a w) : wpList P ops Q (⟨d, .binOp o ty x y r, t, p, f, g⟩ :: rest) a w := h
theorem at_one {o : Oper} (h : wpList P ops Q (o :: rest) a w) : wpList P ops Q (o :: rest) a w := h
end
end Go.Proofs.Ytbhcpbihbecphaa.atC

/-
  Whether a packet may be: the program's and the document's.
-/
namespace Go.Proofs.Ytbhcpbihbecphaa.sxC
open Go.ChangeShapes Go.WideShapes Go.ChangeAt Go.RowKit
open Go.Proofs.Ytbhcpbihbecphaa.memC Go.Proofs.Ytbhcpbihbecphaa.genC Go.Proofs.Ytbhcpbihbecphaa.adC Go.Proofs.Ytbhcpbihbecphaa.pkC Go.Proofs.Ytbhcpbihbecphaa.freeC
set_option linter.unusedVariables false
set_option maxRecDepth 100000 in
set_option maxHeartbeats 4000000 in
theorem cmay_any (p : Pkt) (A : Option Addr) (n c : Nat) (w : World) (hp : p.Ok) (hn : n ≤ 9223372036854775807) :
    Calls Try.prog 13 #[.agg (pktV p A n c)] w (Ret w (.bool (mayS p n))) := by
  obtain ⟨W, hW⟩ : ∃ W, W = w.alloc (.cells (pktV p A n c) 28) := ⟨_, rfl⟩
  have R0 := Lib.hid (show W.heap[w.heap.size]? = some (.cells (pktV p A n c) 28 (0, 0)) by rw [hW]; exact heap_alloc_new w _)
  have HB := Lib.hid (show Below w.heap.size w W by rw [hW]; exact alloc_below _ _)
  have c0 := pkC hp A n c
  have k0 : W.cell? ⟨w.heap.size, 0, none⟩ = some (.bool p.s) := PkC.cell R0.out (c0.src 0 (.bool p.s) rfl)
  have k17 : W.cell? ⟨w.heap.size, 17, none⟩ = some (.bool p.t) := PkC.cell R0.out (c0.dst 0 (.bool p.t) rfl)
  have k34 := PkC.cell R0.out c0.proto
  have k36 := PkC.cell R0.out c0.id
  have k37 := PkC.cell R0.out c0.whole
  have k38 := PkC.cell R0.out c0.more
  have k39 := PkC.cell R0.out c0.off
  have k40 := PkC.cell R0.out c0.load
  obtain ⟨V, hV⟩ : ∃ V, V = mayS p n := ⟨_, rfl⟩
  rw [← hV]
  unfold mayS at hV
  have hi := hp.id
  have ho := hp.off
  have KN := Lib.hid (header_any p.proto W)
  generalize knownB p.proto = kn at *
  generalize p.proto = proto1 at *
  generalize p.s = s1 at *
  generalize p.t = t1 at *
  generalize pktV p A n c = CP at *
  generalize p.id = id1 at *
  generalize p.whole = whole1 at *
  generalize p.more = more1 at *
  generalize p.off = off1 at *
  have HV := Lib.hid hV
  obtain ⟨hi0, hi1⟩ := hi
  obtain ⟨ho0, ho1⟩ := ho
  clear hp c0 hV
  go_enter Try.func13, Try.ntmps13
  go_upto_region 1 with fail
  rw [← hW]
  clear hW
  cases s1
  · have hv := Lib.hid (show V = false by rw [HV.out]; first | (simp [*]; done) | (simp [*]; omega))
    go_wp2_with (first
      | go_skip
      | (go_at_call 27; (refine KN.out.mono ?_); rintro e w2 ⟨rfl, rfl⟩))
    go_ret
    exact ⟨ret_bool hv.out.symm, HB.out⟩
  · cases t1
    · have hv := Lib.hid (show V = false by rw [HV.out]; first | (simp [*]; done) | (simp [*]; omega))
      go_wp2_with (first
        | go_skip
        | (go_at_call 27; (refine KN.out.mono ?_); rintro e w2 ⟨rfl, rfl⟩))
      go_ret
      exact ⟨ret_bool hv.out.symm, HB.out⟩
    · cases kn
      · by_cases h2 : off1 < 0
        · have g2 : ¬ 0 ≤ off1 := by omega
          have hv := Lib.hid (show V = false by rw [HV.out]; first | (simp [*]; done) | (simp [*]; omega))
          go_wp2_with (first
            | go_skip
            | (go_at_call 27; (refine KN.out.mono ?_); rintro e w2 ⟨rfl, rfl⟩))
          go_ret
          exact ⟨ret_bool hv.out.symm, HB.out⟩
        · have d2 : decide (off1 < 0) = false := decide_eq_false h2
          have g2 : 0 ≤ off1 := by omega
          by_cases h3 : ¬ off1 % 8 = 0
          · have d3 : (off1.tmod 8 == 0) = false := beq_eq_false_iff_ne.2 (by rw [Int.tmod_eq_emod_of_nonneg g2]; exact h3)
            have hv := Lib.hid (show V = false by rw [HV.out]; first | (simp [*]; done) | (simp [*]; omega))
            go_wp2_with (first
              | go_skip
              | (go_at_call 27; (refine KN.out.mono ?_); rintro e w2 ⟨rfl, rfl⟩))
            go_ret
            exact ⟨ret_bool hv.out.symm, HB.out⟩
          · have h3 : off1 % 8 = 0 := by omega
            have d3 : off1.tmod 8 = 0 := by rw [Int.tmod_eq_emod_of_nonneg g2]; exact h3
            by_cases h5 : 65527 - (n : Int) < off1
            · have g5 : ¬ off1 ≤ 65527 - (n : Int) := by omega
              have hv := Lib.hid (show V = false by rw [HV.out]; first | (simp [*]; done) | (simp [*]; omega))
              go_wp2_with (first
                | go_skip
                | (go_at_call 27; (refine KN.out.mono ?_); rintro e w2 ⟨rfl, rfl⟩))
              go_ret
              exact ⟨ret_bool hv.out.symm, HB.out⟩
            · have d5 : decide (65527 - (n : Int) < off1) = false := decide_eq_false h5
              have g5 : off1 ≤ 65527 - (n : Int) := by omega
              have wn : IntKind.i64.wrap (65527 - (n : Int)) = 65527 - (n : Int) := IntWalk.i64_in _ (by omega)
              cases more1
              · cases whole1
                · have hv := Lib.hid (show V = true by rw [HV.out]; first | (simp [*]; done) | (simp [*]; omega))
                  go_wp2_with (first
                    | go_skip
                    | (go_at_call 27; (refine KN.out.mono ?_); rintro e w2 ⟨rfl, rfl⟩))
                  go_ret
                  exact ⟨ret_bool hv.out.symm, HB.out⟩
                · by_cases h0 : off1 = 0
                  · by_cases h9 : id1 = 0
                    · have hv := Lib.hid (show V = true by rw [HV.out]; first | (simp [*]; done) | (simp [*]; omega))
                      go_wp2_with (first
                        | go_skip
                        | (go_at_call 27; (refine KN.out.mono ?_); rintro e w2 ⟨rfl, rfl⟩))
                      go_ret
                      exact ⟨ret_bool hv.out.symm, HB.out⟩
                    · have q9 : (id1 == 0) = false := beq_eq_false_iff_ne.2 h9
                      have hv := Lib.hid (show V = false by rw [HV.out]; first | (simp [*]; done) | (simp [*]; omega))
                      go_wp2_with (first
                        | go_skip
                        | (go_at_call 27; (refine KN.out.mono ?_); rintro e w2 ⟨rfl, rfl⟩))
                      go_ret
                      exact ⟨ret_bool hv.out.symm, HB.out⟩
                  · have q0 : (off1 == 0) = false := beq_eq_false_iff_ne.2 h0
                    have hv := Lib.hid (show V = false by rw [HV.out]; first | (simp [*]; done) | (simp [*]; omega))
                    go_wp2_with (first
                      | go_skip
                      | (go_at_call 27; (refine KN.out.mono ?_); rintro e w2 ⟨rfl, rfl⟩))
                    go_ret
                    exact ⟨ret_bool hv.out.symm, HB.out⟩
              · by_cases h8 : n % 8 = 0
                · have t8 : (n : Int).tmod 8 = 0 := by rw [Int.tmod_eq_emod_of_nonneg (by omega)]; omega
                  cases whole1
                  · have hv := Lib.hid (show V = true by rw [HV.out]; first | (simp [*]; done) | (simp [*]; omega))
                    go_wp2_with (first
                      | go_skip
                      | (go_at_call 27; (refine KN.out.mono ?_); rintro e w2 ⟨rfl, rfl⟩))
                    go_ret
                    exact ⟨ret_bool hv.out.symm, HB.out⟩
                  · have hv := Lib.hid (show V = false by rw [HV.out]; first | (simp [*]; done) | (simp [*]; omega))
                    go_wp2_with (first
                      | go_skip
                      | (go_at_call 27; (refine KN.out.mono ?_); rintro e w2 ⟨rfl, rfl⟩))
                    go_ret
                    exact ⟨ret_bool hv.out.symm, HB.out⟩
                · have t8 : ((n : Int).tmod 8 == 0) = false := beq_eq_false_iff_ne.2 (by rw [Int.tmod_eq_emod_of_nonneg (by omega)]; omega)
                  have hv := Lib.hid (show V = false by rw [HV.out]; first | (simp [*]; done) | (simp [*]; omega))
                  go_wp2_with (first
                    | go_skip
                    | (go_at_call 27; (refine KN.out.mono ?_); rintro e w2 ⟨rfl, rfl⟩))
                  go_ret
                  exact ⟨ret_bool hv.out.symm, HB.out⟩
      · have hv := Lib.hid (show V = false by rw [HV.out]; first | (simp [*]; done) | (simp [*]; omega))
        go_wp2_with (first
          | go_skip
          | (go_at_call 27; (refine KN.out.mono ?_); rintro e w2 ⟨rfl, rfl⟩))
        go_ret
        exact ⟨ret_bool hv.out.symm, HB.out⟩
end Go.Proofs.Ytbhcpbihbecphaa.sxC
