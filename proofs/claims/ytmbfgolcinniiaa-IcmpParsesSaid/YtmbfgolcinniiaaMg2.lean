/-
  3 texts of a proof, joined.
-/
import Derived.Test.YtmbfgolcinniiaaMg1
import Derived.ProofKit
import Derived.Outline
import Derived.Deep.QuietTactic
import Derived.BigQuiet
import Derived.Lib.Hide
import Derived.IntWalk
import Derived.Laws.BitsAllLaws

/-
  What fold, add, the two Turns, total and long do.
-/
namespace Go.Proofs.Ytmbfgolcinniiaa.chkC
open Go.ChangeShapes Go.WideShapes Go.ChangeAt Go.RowKit
open Go.Proofs.Ytmbfgolcinniiaa.memC Go.Proofs.Ytmbfgolcinniiaa.chkM
set_option linter.unusedVariables false
theorem ret_int {k : IntKind} {a b : Int} (h : a = b) : Ending.returned (.int k a) = .returned (.int k b) := by rw [h]
theorem val_int {k : IntKind} {a b : Int} (h : a = b) : Value.int k a = .int k b := by rw [h]
theorem and_full {x : Int} (h0 : 0 ≤ x) (h1 : x ≤ 18446744073709551615) : bits .and .u64 x 65535 = x % 65536 := by
  rw [Go.u64_and x 65535 h0 (by omega) (by omega) (by omega)]
  have e : (65535 : Int).toNat = 2 ^ 16 - 1 := by decide
  rw [e, Nat.and_two_pow_sub_one_eq_mod]
  omega
theorem xor_full {n : Nat} (h : n < 65536) : 65535 ^^^ n = 65535 - n := by
  have h1 := congrArg BitVec.toNat (BitVec.allOnes_xor (x := BitVec.ofNat 16 n))
  rw [BitVec.toNat_not, BitVec.toNat_xor, BitVec.toNat_allOnes, BitVec.toNat_ofNat, Nat.mod_eq_of_lt (show n < 2 ^ 16 by omega)] at h1
  simpa using h1
theorem not16 {c : Int} (h0 : 0 ≤ c) (h1 : c ≤ 65535) : bits .xor .u16 IntKind.u16.max c = 65535 - c := by
  have e : IntKind.u16.max = (65535 : Int) := rfl
  rw [e, Go.u16_xor 65535 c (by omega) (by omega) h0 (by omega)]
  have := xor_full (n := c.toNat) (by omega)
  have e2 : (65535 : Int).toNat = 65535 := rfl
  rw [e2, this]; omega
def FoR (s : Int) (t : Value) : Prop := ∃ x : Int, 0 ≤ x ∧ x ≤ 9223372036854775807 ∧ fo x = fo s ∧ t = .int .u64 x
theorem fold_any (s : Int) (w : World) (h0 : 0 ≤ s) (h1 : s ≤ 9223372036854775807) :
    Calls Try.prog 47 #[.int .u64 s] w fun e w' => e = .returned (.int .u16 (fo s)) ∧ w = w' := by
  go_enter Try.func47, Try.ntmps47
  go_wp2
  go_loop [0] (fun t => FoR s t) (fun t => (intOf t).toNat)
  case atStart => exact ⟨s, h0, h1, rfl, rfl⟩
  case round =>
    obtain ⟨x, hx0, hx1, hx, rfl⟩ := hrel
    have HX := Lib.hid hx
    clear hx
    by_cases hlt : 65535 < x
    · have ha := and_full (x := x) hx0 (by omega)
      go_wp2
      go_round
      case rel => exact ⟨x / 65536 + x % 65536, by omega, by omega, (fo_step hlt).trans HX.out, val_int (by omega)⟩
      case measure => simp [intOf]; omega
    · go_wp2
      go_ret
      exact ⟨ret_int (by rw [← HX.out, fo_id hx0 (by omega)]), rfl⟩
theorem add_any (a b : Int) (w : World) (a0 : 0 ≤ a) (a1 : a ≤ 65535) (b0 : 0 ≤ b) (b1 : b ≤ 65535) :
    Calls Try.prog 54 #[.int .u16 a, .int .u16 b] w fun e w' => e = .returned (.int .u16 (fo (a + b))) ∧ w = w' := by
  by_cases hlt : 65535 < a + b
  · have HF := Lib.hid (show fo (a + b) = a + b - 65535 by unfold fo; split <;> omega)
    go_enter Try.func54, Try.ntmps54
    go_wp2
    go_ret
    exact ⟨ret_int (by rw [HF.out]; omega), rfl⟩
  · have HF := Lib.hid (show fo (a + b) = a + b from fo_id (by omega) (by omega))
    go_enter Try.func54, Try.ntmps54
    go_wp2
    go_ret
    exact ⟨ret_int (by rw [HF.out]), rfl⟩
theorem or_bytes {a b : Int} (a0 : 0 ≤ a) (a1 : a ≤ 255) (b0 : 0 ≤ b) (b1 : b ≤ 255) : bits .or .u64 (a * 256) b = a * 256 + b := by
  rw [Go.u64_or _ _ (by omega) (by omega) (by omega) (by omega)]
  have e : (a * 256).toNat = a.toNat <<< 8 := by rw [Nat.shiftLeft_eq]; omega
  rw [e, ← Nat.shiftLeft_add_eq_or_of_lt (by omega), Nat.shiftLeft_eq]; omega
theorem getD_byte {bs : List Int} (hy : ∀ x ∈ bs, Byte x) {k : Nat} (hk : k < bs.length) : Byte (bs.getD k 0) := by
  rw [List.getD_eq_getElem?_getD, List.getElem?_eq_getElem hk]; exact hy _ (List.getElem_mem _)
theorem take_byte {bs : List Int} (hy : ∀ x ∈ bs, Byte x) (k : Nat) : ∀ x ∈ bs.take k, Byte x := fun x hx => hy x (List.mem_of_mem_take hx)
def TotR (bs : List Int) (k : Nat) (t : Value) : Prop := ∃ s : Int, s = wsum (bs.take k) ∧ t = .int .u64 s
set_option maxHeartbeats 1000000 in
theorem total_any (A : Option Addr) (n c : Nat) (bs : List Int) (w : World) (hb : Nums .u8 w w.heap.size A n bs) (hn : n ≤ 10000) (hy : ∀ x ∈ bs, Byte x) :
    Calls Try.prog 48 #[.slice A n c] w fun e w' => e = .returned (.int .u64 (wsum bs)) ∧ ∃ j, w' = w.drewN j := by
  have hl := hb.len
  obtain ⟨m, hm⟩ : ∃ m, m = n - n % 2 := ⟨_, rfl⟩
  have hmz : (n : Int) - (n : Int) % 2 = (m : Int) := by omega
  have hm2 : m % 2 = 0 := by omega
  have hmn : m ≤ n := by omega
  have HB := Lib.hid hb
  have HM := Lib.hid hm
  have HM2 := Lib.hid hm2
  have HL := Lib.hid hl
  clear hb hm hm2 hl
  go_enter Try.func48, Try.ntmps48
  go_wp2_with fail
  go_loopw [3, 5] (fun t i wr => ∃ k : Nat, k ≤ m ∧ Hid (k % 2 = 0) ∧ i = .int .i64 k ∧ TotR bs k t ∧ ∃ j, wr = w.drewN j) (fun _ i _ => m - (intOf i).toNat)
  case atStart => exact ⟨0, Nat.zero_le _, Lib.hid rfl, rfl, ⟨0, by simp [wsum], rfl⟩, 0, rfl⟩
  case round =>
    obtain ⟨k, hk, hk2, rfl, ⟨s, hs, rfl⟩, j, hw⟩ := hrel
    have HS := Lib.hid hs
    have HW := Lib.hid hw
    have hsb := wsum_bd (bs.take k) (take_byte hy k)
    rw [← hs, List.length_take, HL.out] at hsb
    obtain ⟨s0, s1⟩ := hsb
    have s2 : s ≤ 655350000 := by omega
    clear s1 hs hw
    by_cases hlt : k < m
    · have hk1 : k + 1 < n := by have := hk2.out; have := HM2.out; omega
      obtain ⟨b, o, rfl, hbb, hcell⟩ := HB.out.cell (i := k) (by omega)
      have hcell2 : w.cell? ⟨b, o + (k + 1), none⟩ = some (.int .u8 (bs.getD (k + 1) 0)) := by
        obtain ⟨b', o', e, _, h⟩ := HB.out.cell (i := k + 1) hk1
        cases e; exact h
      have b1 := getD_byte hy (k := k) (by rw [HL.out]; omega)
      have b2 := getD_byte hy (k := k + 1) (by rw [HL.out]; omega)
      have hts := wsum_two bs k hk2.out (by rw [HL.out]; omega)
      rw [← HS.out] at hts
      have HT := Lib.hid hts
      clear hts
      generalize bs.getD k 0 = x at *
      generalize bs.getD (k + 1) 0 = y at *
      obtain ⟨x0, x1⟩ := b1
      obtain ⟨y0, y1⟩ := b2
      have ob := or_bytes x0 x1 y0 y1
      have cc : wr.cell? ⟨b, o + k, none⟩ = some (.int .u8 x) := by rw [HW.out]; exact hcell
      have cc2 : wr.cell? ⟨b, o + (k + 1), none⟩ = some (.int .u8 y) := by rw [HW.out]; exact hcell2
      clear hcell hcell2
      have i1 : IntKind.i64.wrap ((k : Int) + 1) = (k : Int) + 1 := IntWalk.i64_in _ (by omega)
      have i2 : (0 : Int) ≤ (k : Int) + 1 := by omega
      have i3 : ((k : Int) + 1).toNat = k + 1 := by omega
      have i4 : IntKind.u64.wrap (s + (x * 256 + y)) = s + (x * 256 + y) := IntWalk.u64_in _ (by omega)
      have i5 : IntKind.u64.wrap x = x := IntWalk.u64_in _ (by omega)
      have i6 : IntKind.u64.wrap y = y := IntWalk.u64_in _ (by omega)
      have i7 : IntKind.u64.wrap (x * 256) = x * 256 := IntWalk.u64_in _ (by omega)
      go_wp2_with fail
      go_quiet (fail)
      clear i1 i2 i3 i4 i5 i6 i7
      go_wp2_with fail
      go_roundw
      case rel =>
        refine ⟨k + 2, by have := hk2.out; have := HM2.out; omega, Lib.hid (by have := hk2.out; omega), by go_num, ⟨_, HT.out.symm, ?_⟩, ?_⟩
        · rfl
        · rw [HW.out]; exact ⟨_, World.drewN_drewN _ _ _⟩
      case measure => simp [intOf]; omega
    · have e : k = m := by omega
      subst e
      by_cases hod : k < n
      · obtain ⟨b, o, rfl, hbb, hcell⟩ := HB.out.cell hod
        have b1 := getD_byte hy (k := k) (by rw [HL.out]; omega)
        have hts := wsum_last bs k hk2.out (by have := HM.out; rw [HL.out]; omega)
        rw [← HS.out] at hts
        have HT := Lib.hid hts
        clear hts
        generalize bs.getD k 0 = x at *
        obtain ⟨x0, x1⟩ := b1
        have cc : wr.cell? ⟨b, o + k, none⟩ = some (.int .u8 x) := by rw [HW.out]; exact hcell
        clear hcell
        go_wp2_with fail
        go_ret
        exact ⟨ret_int HT.out.symm, j, HW.out⟩
      · have hts : s = wsum bs := by rw [HS.out, List.take_of_length_le (by rw [HL.out]; omega)]
        have HT := Lib.hid hts
        clear hts
        go_wp2_with fail
        go_ret
        exact ⟨ret_int HT.out, j, HW.out⟩
end Go.Proofs.Ytmbfgolcinniiaa.chkC

/-
  What the two Sums and Check do, of any parts.
-/
namespace Go.Proofs.Ytmbfgolcinniiaa.chkC
open Go.ChangeShapes Go.WideShapes Go.ChangeAt Go.RowKit
open Go.Proofs.Ytmbfgolcinniiaa.memC Go.Proofs.Ytmbfgolcinniiaa.chkM
set_option linter.unusedVariables false
/-- a part: a slice, and what it holds -/
structure Part where
  A : Option Addr
  n : Nat
  c : Nat
  bs : List Int
/-- a part that lies in memory below B -/
structure PartAt (w : World) (B : Nat) (p : Part) : Prop where
  nums : Nums .u8 w B p.A p.n p.bs
  few : p.n ≤ 10000
  byte : ∀ x ∈ p.bs, Byte x
theorem PartAt.heap {w w' : World} {B : Nat} {p : Part} (h : PartAt w B p) (e : w'.heap = w.heap) : PartAt w' B p := ⟨h.nums.heap e, h.few, h.byte⟩
theorem PartAt.below {w w' : World} {B B' : Nat} {p : Part} (h : PartAt w B p) (hb : Below B w w') (hB : B ≤ B') : PartAt w' B' p := ⟨(h.nums.below hb).more hB, h.few, h.byte⟩
/-- parts that lie in a row -/
structure Parts (w : World) (B : Nat) (P : Option Addr) (ps : List Part) : Prop where
  at_ : 0 < ps.length → ∃ b o, P = some ⟨b, o, none⟩ ∧ b < B ∧ ∀ i (h : i < ps.length), w.cell? ⟨b, o + i, none⟩ = some (.slice ps[i].A ps[i].n ps[i].c)
  all : ∀ p ∈ ps, PartAt w B p
theorem Parts.cell {w : World} {B : Nat} {P : Option Addr} {ps : List Part} (h : Parts w B P ps) {i : Nat} (hi : i < ps.length) :
    ∃ b o, P = some ⟨b, o, none⟩ ∧ b < B ∧ w.cell? ⟨b, o + i, none⟩ = some (.slice ps[i].A ps[i].n ps[i].c) ∧ PartAt w B ps[i] := by
  obtain ⟨b, o, e, hb, hc⟩ := h.at_ (by omega)
  exact ⟨b, o, e, hb, hc i hi, h.all _ (List.getElem_mem _)⟩
def numsOf (ps : List Part) : List (List Int) := ps.map Part.bs
/-- parts' sums, each by itself, added -/
def fsum : List (List Int) → Int
  | [] => 0
  | p :: r => fo (wsum p) + fsum r
theorem fsum_append : ∀ (a b : List (List Int)), fsum (a ++ b) = fsum a + fsum b
  | [], b => by simp [fsum]
  | p :: r, b => by simp only [List.cons_append, fsum, fsum_append r b]; omega
theorem fsum_bd : ∀ (a : List (List Int)), 0 ≤ fsum a ∧ fsum a ≤ 65535 * a.length
  | [] => by simp [fsum]
  | p :: r => by have h1 := fo_bd (wsum p); have h2 := fsum_bd r; simp only [fsum, List.length_cons]; omega
theorem fsum_snoc (ps : List Part) (k : Nat) (h : k < ps.length) : fsum (numsOf (ps.take (k + 1))) = fsum (numsOf (ps.take k)) + fo (wsum ps[k].bs) := by
  rw [List.take_succ_eq_append_getElem h, numsOf, List.map_append, fsum_append]
  simp [fsum, numsOf]
theorem psum_snoc' (ps : List Part) (k : Nat) (h : k < ps.length) : psum (numsOf (ps.take (k + 1))) = psum (numsOf (ps.take k)) + wsum ps[k].bs := by
  rw [List.take_succ_eq_append_getElem h, numsOf, List.map_append, psum_append]
  simp [psum, numsOf]
theorem fo_fsum : ∀ (a : List (List Int)), (∀ p ∈ a, ∀ x ∈ p, Byte x) → fo (fsum a) = fo (psum a)
  | [], _ => rfl
  | p :: r, h => by
    have h1 := (wsum_bd p (h p (by simp))).1
    have h2 := fo_fsum r fun q hq => h q (by simp [hq])
    have h3 := (fsum_bd r).1
    have h4 := psum_bd r fun q hq => h q (by simp [hq])
    simp only [fsum, psum]
    rw [fo_add h1 h3, ← fo_add' h1 h3, h2, fo_add' h1 h4]
theorem parts_byte {w : World} {B : Nat} {P : Option Addr} {ps : List Part} (h : Parts w B P ps) : ∀ p ∈ numsOf ps, ∀ x ∈ p, Byte x := by
  intro p hp x hx
  obtain ⟨q, hq, rfl⟩ := List.mem_map.1 hp
  exact (h.all q hq).byte x hx
def SumR (ps : List Part) (k : Nat) (t : Value) : Prop := ∃ s : Int, s = fsum (numsOf (ps.take k)) ∧ t = .int .u64 s
set_option maxHeartbeats 1000000 in
theorem sum_any (P : Option Addr) (m c : Nat) (ps : List Part) (w : World) (hp : Parts w w.heap.size P ps) (hm : m ≤ 100) (hl : ps.length = m) :
    Calls Try.prog 35 #[.slice P m c] w fun e w' => e = .returned (.int .u16 (fo (psum (numsOf ps)))) ∧ ∃ j, w' = w.drewN j := by
  have HP := Lib.hid hp
  have HL := Lib.hid hl
  clear hp hl
  go_enter Try.func35, Try.ntmps35
  go_wp2_with fail
  go_loopw [3, 8] (fun t i wr => ∃ k : Nat, k ≤ m ∧ i = .int .i64 k ∧ SumR ps k t ∧ ∃ j, wr = w.drewN j) (fun _ i _ => m - (intOf i).toNat)
  case atStart => exact ⟨0, Nat.zero_le _, rfl, ⟨0, by simp [fsum, numsOf], rfl⟩, 0, rfl⟩
  case round =>
    obtain ⟨k, hk, rfl, ⟨s, hs, rfl⟩, j, hw⟩ := hrel
    have HW := Lib.hid hw
    have hsb := fsum_bd (numsOf (ps.take k))
    rw [← hs, numsOf, List.length_map, List.length_take, HL.out] at hsb
    have HS := Lib.hid hs
    obtain ⟨s0, s1⟩ := hsb
    have s2 : s ≤ 655350000 := by omega
    clear s1 hs hw
    by_cases hlt : k < m
    · obtain ⟨b, o, rfl, hbb, hcell, hpart⟩ := HP.out.cell (i := k) (by rw [HL.out]; exact hlt)
      have hts := fsum_snoc ps k (by rw [HL.out]; exact hlt)
      rw [← HS.out] at hts
      have HT := Lib.hid hts
      clear hts
      have hkl : k < ps.length := by rw [HL.out]; exact hlt
      generalize ps[k] = p at *
      obtain ⟨A, n, c', bs⟩ := p
      obtain ⟨hN, hn, hy⟩ := hpart
      simp only at hcell hN hn hy HT
      have cc : wr.cell? ⟨b, o + k, none⟩ = some (.slice A n c') := by rw [HW.out]; exact hcell
      have hN2 : Nums .u8 wr wr.heap.size A n bs := by rw [HW.out]; exact hN.drewN j
      have TT := Lib.hid (total_any A n c' bs wr hN2 hn hy)
      have wb := wsum_bd bs hy
      rw [hN.len] at wb
      obtain ⟨wb0, wb1⟩ := wb
      have wb2 : wsum bs ≤ 9223372036854775807 := by omega
      have fb := fo_bd (wsum bs)
      obtain ⟨f, ef⟩ : ∃ f, f = fo (wsum bs) := ⟨_, rfl⟩
      rw [← ef] at fb HT
      obtain ⟨fb0, fb1⟩ := fb
      have FF := Lib.hid (show ∀ w, Calls Try.prog 47 #[.int .u64 (wsum bs)] w fun e w' => e = .returned (.int .u16 f) ∧ w = w' by rw [ef]; exact fun w => fold_any _ w wb0 wb2)
      clear hcell hN hN2 wb1 ef
      go_wp2_with (first
        | (go_at_call 48; ((with_reducible refine TT.out.mono ?_); rintro e w' ⟨rfl, j2, rfl⟩))
        | (go_at_call 47; ((with_reducible refine (FF.out _).mono ?_); rintro e w' ⟨rfl, rfl⟩)))
      go_roundw
      case rel =>
        refine ⟨k + 1, by omega, by go_num, ⟨_, HT.out.symm, ?_⟩, ?_⟩
        · rfl
        · rw [HW.out]; exact ⟨_, World.drewN_drewN _ _ _⟩
      case measure => simp [intOf]; omega
    · have e : k = m := by omega
      subst e
      have hts : fo s = fo (psum (numsOf ps)) := by
        rw [HS.out, List.take_of_length_le (by rw [HL.out]; omega), fo_fsum _ (parts_byte HP.out)]
      have HT := Lib.hid hts
      clear hts
      go_wp2_with (go_at_call 47; ((with_reducible refine (fold_any _ _ s0 (by omega)).mono ?_); rintro e w' ⟨rfl, rfl⟩))
      go_ret
      exact ⟨ret_int HT.out, j, HW.out⟩
/-- the check sum -/
def ckZ (ps : List Part) : Int := 65535 - fo (psum (numsOf ps))
theorem ckZ_bd (ps : List Part) : 0 ≤ ckZ ps ∧ ckZ ps ≤ 65535 := by unfold ckZ; have := fo_bd (psum (numsOf ps)); omega
theorem check_any (P : Option Addr) (m c : Nat) (ps : List Part) (w : World) (hp : Parts w w.heap.size P ps) (hm : m ≤ 100) (hl : ps.length = m) :
    Calls Try.prog 28 #[.slice P m c] w fun e w' => e = .returned (.int .u16 (ckZ ps)) ∧ ∃ j, w' = w.drewN j := by
  have SS := sum_any P m c ps w hp hm hl
  have ee : ckZ ps = 65535 - fo (psum (numsOf ps)) := rfl
  have fb := fo_bd (psum (numsOf ps))
  obtain ⟨f, ef⟩ : ∃ f, f = fo (psum (numsOf ps)) := ⟨_, rfl⟩
  rw [← ef] at fb ee SS
  obtain ⟨fb0, fb1⟩ := fb
  have n1 := not16 fb0 fb1
  have S := Lib.hid SS
  have E := Lib.hid ee
  clear SS ee ef hp hl
  go_enter Try.func28, Try.ntmps28
  go_wp2_with (go_at_call 35; ((with_reducible refine S.out.mono ?_); rintro e w' ⟨rfl, j2, rfl⟩))
  go_ret
  exact ⟨ret_int E.out.symm, j2, rfl⟩
def RefR (s : Int) (t : Value) : Prop := ∃ f : Int, 0 ≤ f ∧ f ≤ 65535 ∧ f = fo s ∧ t = .int .u16 f
theorem RefR.mk (s : Int) : RefR s (.int .u16 (fo s)) := ⟨_, (fo_bd s).1, (fo_bd s).2, rfl, rfl⟩
set_option maxHeartbeats 1000000 in
theorem sumref_any (P : Option Addr) (m c : Nat) (ps : List Part) (w : World) (hp : Parts w w.heap.size P ps) (hm : m ≤ 100) (hl : ps.length = m) :
    Calls Try.prog 44 #[.slice P m c] w fun e w' => e = .returned (.int .u16 (fo (psum (numsOf ps)))) ∧ w = w' := by
  have HP := Lib.hid hp
  have HL := Lib.hid hl
  clear hp hl
  go_enter Try.func44, Try.ntmps44
  go_wp2_with fail
  go_loop [3, 4] (fun t i => ∃ k : Nat, k ≤ m ∧ i = .int .i64 k ∧ RefR (psum (numsOf (ps.take k))) t) (fun _ i => m - (intOf i).toNat)
  case atStart => exact ⟨0, Nat.zero_le _, rfl, RefR.mk 0⟩
  case round =>
    obtain ⟨k, hk, rfl, ⟨f, f0, f1, hf, rfl⟩⟩ := hrel
    have HF := Lib.hid hf
    clear hf
    by_cases hlt : k < m
    · obtain ⟨b, o, rfl, hbb, hcell, hpart⟩ := HP.out.cell (i := k) (by rw [HL.out]; exact hlt)
      have hkl : k < ps.length := by rw [HL.out]; exact hlt
      have HT := Lib.hid (psum_snoc' ps k hkl)
      have HS := Lib.hid (psum_bd (numsOf (ps.take k)) fun p hp => parts_byte HP.out p (by rw [numsOf, List.map_take] at hp; exact List.mem_of_mem_take hp))
      generalize ps[k] = p at *
      obtain ⟨A, n, c', bs⟩ := p
      obtain ⟨hN, hn, hy⟩ := hpart
      simp only at hcell hN hn hy HT
      have HN := Lib.hid hN
      have HLn := Lib.hid hN.len
      clear hN
      go_wp2_with fail
      go_loop [3, 6] (fun t i => ∃ q : Nat, q ≤ n + 1 ∧ Hid (q % 2 = 0) ∧ i = .int .i64 q ∧ RefR (psum (numsOf (ps.take k)) + wsum (bs.take q)) t) (fun _ i => n - (intOf i).toNat)
      case atStart => exact ⟨0, Nat.zero_le _, Lib.hid rfl, rfl, by rw [HF.out]; simpa [wsum] using RefR.mk _⟩
      case round =>
        obtain ⟨q, hq, hq2, rfl, ⟨g, g0, g1, hg, rfl⟩⟩ := hrel
        have HG := Lib.hid hg
        clear hg
        by_cases hltn : q < n
        · obtain ⟨b', o', rfl, hbb', hcell'⟩ := HN.out.cell (i := q) hltn
          have b1 := getD_byte hy (k := q) (by rw [HLn.out]; exact hltn)
          have hwb := (wsum_bd (bs.take q) (take_byte hy q)).1
          by_cases hod : q + 1 < n
          · have hcell2 : w.cell? ⟨b', o' + (q + 1), none⟩ = some (.int .u8 (bs.getD (q + 1) 0)) := by
              obtain ⟨b'', o'', e, _, h⟩ := HN.out.cell (i := q + 1) hod
              cases e; exact h
            have b2 := getD_byte hy (k := q + 1) (by rw [HLn.out]; exact hod)
            have HU := Lib.hid (wsum_two bs q hq2.out (by rw [HLn.out]; exact hod))
            generalize bs.getD q 0 = x at *
            generalize bs.getD (q + 1) 0 = y at *
            obtain ⟨x0, x1⟩ := b1
            obtain ⟨y0, y1⟩ := b2
            have hrs : RefR (psum (numsOf (ps.take k)) + wsum (bs.take (q + 2))) (.int .u16 (fo (g + (x * 256 + y)))) := by
              rw [HG.out, HU.out, fo_add (by have := HS.out; omega) (by omega), Int.add_assoc]; exact RefR.mk _
            have AA := Lib.hid (add_any g (x * 256 + y) w g0 g1 (by omega) (by omega))
            clear hwb
            go_wp2_with (go_at_call 54; ((with_reducible refine AA.out.mono ?_); rintro e w' ⟨rfl, rfl⟩))
            go_round
            case rel => exact ⟨q + 2, by omega, Lib.hid (by have := hq2.out; omega), by go_num, hrs⟩
            case measure => simp [intOf]; omega
          · have HU := Lib.hid (wsum_last bs q hq2.out (by rw [HLn.out]; omega))
            have e2 : bs.take (q + 2) = bs := List.take_of_length_le (by rw [HLn.out]; omega)
            generalize bs.getD q 0 = x at *
            obtain ⟨x0, x1⟩ := b1
            have hrs : RefR (psum (numsOf (ps.take k)) + wsum (bs.take (q + 2))) (.int .u16 (fo (g + x * 256))) := by
              rw [HG.out, e2, HU.out, fo_add (by have := HS.out; omega) (by omega), Int.add_assoc]; exact RefR.mk _
            have AA := Lib.hid (add_any g (x * 256) w g0 g1 (by omega) (by omega))
            clear hwb e2
            go_wp2_with (go_at_call 54; ((with_reducible refine AA.out.mono ?_); rintro e w' ⟨rfl, rfl⟩))
            go_round
            case rel => exact ⟨q + 2, by omega, Lib.hid (by have := hq2.out; omega), by go_num, hrs⟩
            case measure => simp [intOf]; omega
        · have e2 : bs.take q = bs := List.take_of_length_le (by rw [HLn.out]; omega)
          have hrs : RefR (psum (numsOf (ps.take (k + 1)))) (.int .u16 g) := by
            rw [HT.out, HG.out, e2]; exact RefR.mk _
          clear e2
          go_wp2_with fail
          go_round
          case rel => exact ⟨k + 1, by omega, by go_num, hrs⟩
          case measure => simp [intOf]; omega
    · have e : k = m := by omega
      subst e
      have hts : f = fo (psum (numsOf ps)) := by
        rw [HF.out, List.take_of_length_le (by rw [HL.out]; omega)]
      have HT := Lib.hid hts
      clear hts
      go_wp2_with fail
      go_ret
      exact ⟨ret_int HT.out, rfl⟩
end Go.Proofs.Ytmbfgolcinniiaa.chkC

/-
  Rows of parts that the call lays itself; what alive does; the walk of the second statement.
-/
namespace Go.Proofs.Ytmbfgolcinniiaa.chkC
open Go.ChangeShapes Go.WideShapes Go.ChangeAt Go.RowKit
open Go.Proofs.Ytmbfgolcinniiaa.memC Go.Proofs.Ytmbfgolcinniiaa.chkM
set_option linter.unusedVariables false
theorem bel_drewN {B : Nat} {a w : World} (h : Below B a w) (n : Nat) : Below B a (w.drewN n) := ⟨h.os, h.tape, h.output, h.size, h.block⟩
theorem alloc_below (w : World) (o : Obj) : Below w.heap.size w (w.alloc o) := (Below.refl _ _).alloc (Nat.le_refl _) _
theorem alloc_size (w : World) (o : Obj) : (w.alloc o).heap.size = w.heap.size + 1 := by simp
theorem PartAt.alloc {w : World} {p : Part} (h : PartAt w w.heap.size p) (o : Obj) : PartAt (w.alloc o) (w.alloc o).heap.size p := h.below (alloc_below w o) (alloc_below w o).size
theorem parts1 {w : World} {A : Option Addr} {n c : Nat} {bs : List Int} (h : PartAt w w.heap.size ⟨A, n, c, bs⟩) (T : TypeId) :
    Parts (w.alloc (.cells #[.slice A n c] T)) (w.alloc (.cells #[.slice A n c] T)).heap.size (some ⟨w.heap.size, 0, none⟩) [⟨A, n, c, bs⟩] := by
  refine ⟨fun _ => ⟨_, 0, rfl, by rw [alloc_size]; exact Nat.lt_succ_self _, fun i hi => ?_⟩, fun p hp => ?_⟩
  · obtain rfl : i = 0 := by simpa using hi
    simp [go_sem]
  · obtain rfl := List.mem_singleton.1 hp
    exact h.alloc _
theorem parts2 {w : World} {A A' : Option Addr} {n c n' c' : Nat} {bs bs' : List Int} (h : PartAt w w.heap.size ⟨A, n, c, bs⟩) (h' : PartAt w w.heap.size ⟨A', n', c', bs'⟩) (T : TypeId) :
    Parts (w.alloc (.cells #[.slice A n c, .slice A' n' c'] T)) (w.alloc (.cells #[.slice A n c, .slice A' n' c'] T)).heap.size (some ⟨w.heap.size, 0, none⟩) [⟨A, n, c, bs⟩, ⟨A', n', c', bs'⟩] := by
  refine ⟨fun _ => ⟨_, 0, rfl, by rw [alloc_size]; exact Nat.lt_succ_self _, fun i hi => ?_⟩, fun p hp => ?_⟩
  · simp only [List.length_cons, List.length_nil] at hi
    match i, hi with
    | 0, _ => simp [go_sem]
    | 1, _ => simp [go_sem]
  · rcases List.mem_cons.1 hp with rfl | hp
    · exact h.alloc _
    · obtain rfl := List.mem_singleton.1 hp
      exact h'.alloc _
theorem parts3 {w : World} {A A' A2 : Option Addr} {n c n' c' n2 c2 : Nat} {bs bs' bs2 : List Int} (h : PartAt w w.heap.size ⟨A, n, c, bs⟩) (h' : PartAt w w.heap.size ⟨A', n', c', bs'⟩) (h2 : PartAt w w.heap.size ⟨A2, n2, c2, bs2⟩) (T : TypeId) :
    Parts (w.alloc (.cells #[.slice A n c, .slice A' n' c', .slice A2 n2 c2] T)) (w.alloc (.cells #[.slice A n c, .slice A' n' c', .slice A2 n2 c2] T)).heap.size (some ⟨w.heap.size, 0, none⟩) [⟨A, n, c, bs⟩, ⟨A', n', c', bs'⟩, ⟨A2, n2, c2, bs2⟩] := by
  refine ⟨fun _ => ⟨_, 0, rfl, by rw [alloc_size]; exact Nat.lt_succ_self _, fun i hi => ?_⟩, fun p hp => ?_⟩
  · simp only [List.length_cons, List.length_nil] at hi
    match i, hi with
    | 0, _ => simp [go_sem]
    | 1, _ => simp [go_sem]
    | 2, _ => simp [go_sem]
  · rcases List.mem_cons.1 hp with rfl | hp
    · exact h.alloc _
    · rcases List.mem_cons.1 hp with rfl | hp
      · exact h'.alloc _
      · obtain rfl := List.mem_singleton.1 hp
        exact h2.alloc _
end Go.Proofs.Ytmbfgolcinniiaa.chkC
