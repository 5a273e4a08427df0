/-
  The walk of the second statement.
-/
import Derived.Test.YtbpolandhjcggaaHmO
namespace Go.Proofs.Ytbpolandhjcggaa.hmC
open Go.ChangeShapes Go.WideShapes Go.ChangeAt Go.RowKit
open Go.Proofs.Ytbpolandhjcggaa.memC Go.Proofs.Ytbpolandhjcggaa.genC Go.Proofs.Ytbpolandhjcggaa.shaM Go.Proofs.Ytbpolandhjcggaa.shaC Go.Proofs.Ytbpolandhjcggaa.shaN Go.Proofs.Ytbpolandhjcggaa.butC Go.Proofs.Ytbpolandhjcggaa.hmM Go.Proofs.Ytbpolandhjcggaa.freeC Go.Proofs.Ytbpolandhjcggaa.partsC
set_option linter.unusedVariables false
/-- all bytes so far: the call's own -/
def AllR (w : World) (T : List Int) (v : Value) (wr : World) : Prop := ∃ A c L, v = .slice A L c ∧ T.length = L ∧ L ≤ c ∧ c ≤ maxLen ∧ Own .u8 5 wr w.heap.size (.slice A L c) T ∧ Below w.heap.size w wr
theorem few_sum {ps : List Part} {N : Nat} : ∀ k, k ≤ ps.length → FewR N ps k → nsum (ps.take k) ≤ N * k
  | 0, _, _ => by simp [nsum]
  | k + 1, hk, h => by
    have h1 := few_sum k (by omega) fun i hi hik => h i hi (by omega)
    have h2 := h k (by omega) (by omega)
    rw [nsum_snoc ps k (by omega), Nat.mul_succ]; omega
theorem came_cat {w : World} {B : Nat} {P : Option Addr} {ps : List Part} (h : Came w B P ps) : ∀ k, k ≤ ps.length → (catL (ps.take k)).length = nsum (ps.take k)
  | 0, _ => by simp [catL, nsum]
  | k + 1, hk => by
    rw [catL_snoc ps k (by omega), List.length_append, came_cat h k (by omega), (h.nums _ (List.getElem_mem (by omega : k < ps.length))).len, nsum_snoc ps k (by omega)]
theorem hmacparts_long (A : Option Addr) (n c : Nat) (P : Option Addr) (m c2 : Nat) (w : World) (hn : n ≤ 9223372036854775807) (hm : m ≤ 9223372036854775807) (h : 1000 < n ∨ 10 < m) :
    Calls Try.prog 4 #[.slice A n c, .slice P m c2] w (AliveRet w) := by
  by_cases h1 : 1000 < n
  · have d1 : decide (1000 < n) = true := by simpa using h1
    clear h h1
    go_enter Try.func4, Try.ntmps4
    go_wp2_with (first
      | (go_at_call 7; (with_reducible refine (long_any A _ _ _ hn).mono ?_); rintro e w' ⟨rfl, rfl⟩)
      | (go_at_call 8; refine (alive_any _).mono ?_; rintro e w' ⟨rfl, B⟩))
    go_ret
    exact ⟨rfl, B⟩
  · have d1 : decide (1000 < n) = false := by simpa using h1
    have d2 : (10 : Int) < (m : Int) := by omega
    clear h h1
    go_enter Try.func4, Try.ntmps4
    go_wp2_with (first
      | (go_at_call 7; (with_reducible refine (long_any A n c _ hn).mono ?_); rintro e w' ⟨rfl, rfl⟩)
      | (go_at_call 8; refine (alive_any _).mono ?_; rintro e w' ⟨rfl, B⟩))
    go_ret
    exact ⟨rfl, B⟩
set_option maxRecDepth 100000 in
set_option maxHeartbeats 1000000 in
theorem hmacparts_short (A : Option Addr) (n c : Nat) (k : List Int) (P : Option Addr) (m c2 : Nat) (ps : List Part) (w : World) (hk : Key w A n c k) (hp : Came w w.heap.size P ps) (hl : ps.length = m) (hn1 : n ≤ 1000) (hm10 : m ≤ 10) :
    Calls Try.prog 4 #[.slice A n c, .slice P m c2] w (AliveRet w) := by
  obtain ⟨i0, hi0, hz0, hz1, hz2⟩ := info_parts byte_info
  have T1 := Lib.hid hi0; have T2 := Lib.hid hz0; have T3 := Lib.hid hz1; have T4 := Lib.hid hz2
  have HK := Lib.hid hk
  have HP := Lib.hid hp
  have HL := Lib.hid hl
  have AL := Lib.hid (fun (w' : World) (B : Below w.heap.size w w') => (alive_any w').mono fun e w'' h => (show e = .returned (.bool true) ∧ Below w.heap.size w w'' from ⟨h.1, B.trans (h.2.mono B.size)⟩))
  have BB := Below.refl w.heap.size w
  have d1 : decide (1000 < n) = false := by simpa using hn1
  have hn : n ≤ 9223372036854775807 := by omega
  have hm : m ≤ 9223372036854775807 := by omega
  have R0 : AllR w (catL (ps.take 0)) (.slice none 0 0) w := ⟨none, 0, 0, rfl, rfl, Nat.le_refl _, Nat.zero_le _, Own.nil _ _, BB⟩
  clear hk hp hl hi0 hz0 hz1 hz2
  go_enter Try.func4, Try.ntmps4
  go_wp2_with (go_at_call 7; (with_reducible refine (long_any A n c _ hn).mono ?_); rintro e w' ⟨rfl, rfl⟩)
  clear d1
  go_loopw [5, 18] (fun v i wr => ∃ j : Nat, j ≤ m ∧ i = .int .i64 j ∧ FewR 300 ps j ∧ AllR w (catL (ps.take j)) v wr) (fun _ i _ => m - (intOf i).toNat)
  case atStart => exact ⟨0, Nat.zero_le _, rfl, fun i _ h => absurd h (by omega), R0⟩
  case round =>
    obtain ⟨j, hj, rfl, hfew, A4, c4, L, rfl, hlen, g4, g4', O4, B4⟩ := hrel
    have HF := Lib.hid hfew
    have HLen := Lib.hid hlen
    have hL : L ≤ 3000 := by
      have h1 := few_sum j (by rw [HL.out]; exact hj) hfew
      have h2 := came_cat HP.out j (by rw [HL.out]; exact hj)
      rw [hlen] at h2
      have : 300 * j ≤ 300 * 10 := Nat.mul_le_mul_left _ (by omega)
      omega
    clear hfew hlen R0
    by_cases hlt : j < m
    · have hkl : j < ps.length := by rw [HL.out]; exact hlt
      obtain ⟨b, o, rfl, hbb, hcell⟩ := HP.out.at_ (by rw [HL.out]; omega)
      have cc := (B4.cell (p := ⟨b, o + j, none⟩) hbb).trans (hcell j hkl)
      have hsz := HP.out.size _ (List.getElem_mem hkl)
      have hnp := ((HP.out.nums _ (List.getElem_mem hkl)).below B4).more B4.size
      have HN : Hid (ps[j].n ≤ 300 → FewR 300 ps (j + 1)) := Lib.hid fun h i hi hik => by
        by_cases e : i = j
        · subst e; exact h
        · exact HF.out i hi (by omega)
      have hsn := catL_snoc ps j hkl
      generalize hpk : ps[j] = p at *
      obtain ⟨A', n', c', bs⟩ := p
      simp only at cc hsz HN hnp hsn
      have HSN := Lib.hid hsn
      have HNP := Lib.hid hnp
      have hn63 : n' ≤ 9223372036854775807 := by omega
      have hkz : (j : Int) < (m : Int) := by omega
      clear hcell hpk hsn hnp
      by_cases hlong : 300 < n'
      · have hlz : (300 : Int) < (n' : Int) := by omega
        go_wp2_with (go_at_call 8; ((with_reducible refine (AL.out _ B4).mono ?_); rintro e w' ⟨rfl, BB⟩))
        go_ret
        exact ⟨rfl, BB⟩
      · have hlz : ¬ (300 : Int) < (n' : Int) := by omega
        have hn := HN.out (by omega)
        have HN2 := Lib.hid hn
        have hn5 : n' ≤ 300 := by omega
        clear hlong hn HN
        go_wp2_with (first
          | (at_builtin; (refine wpList_appT _ rfl (.tmp 26) (.tmp 27) _ rfl 5 i0 _ 1 Try.underlying22 T1.out T2.out T3.out T4.out rfl w.heap.size _ _ rfl O4 wr.heap.size A' n' c' bs rfl HNP.out (by rw [HLen.out]; simp only [maxLen]; omega) (by rw [HLen.out]; omega) B4.size (L + n') (by rw [HLen.out]) ?_)
             intro A5 c5 w5 g5 g5' O5 B5
             have P5 := Lib.hid (show AllR w (catL (ps.take (j + 1))) (.slice A5 (L + n') c5) w5 by
               rw [HSN.out]
               exact ⟨A5, c5, L + n', rfl, by rw [List.length_append, HLen.out, HNP.out.len], g5, g5', O5, B4.trans B5⟩)
             clear O5 B5 g5 g5'))
        clear cc hlz hkz
        go_roundw
        case rel => exact ⟨j + 1, by omega, by go_num, HN2.out, P5.out⟩
        case measure => simp [intOf]; omega
    · have e : j = m := by omega
      subst e
      have hparts := HP.out.parts (N := 300) (by decide) (fun i hi => HF.out i hi (by rw [← HL.out]; exact hi))
      have hF : catL (ps.take j) = catL ps := by rw [List.take_of_length_le (by rw [HL.out]; exact Nat.le_refl _)]
      rw [hF] at O4 HLen
      have hcb := catL_byte (w := w) (B := w.heap.size) (ps := ps) hparts.all
      have hkb := HK.out.byte
      have hkc := HK.out.cap
      have hkm := HK.out.max
      have O1 := Lib.hid (fun (w' : World) (B : Below wr.heap.size wr w') => (cof_any A n c k P j c2 ps w' ((HK.out.below (B4.trans (B.mono B4.size))).nums) hkb (by omega) hkc hkm (hparts.below (B4.trans (B.mono B4.size)) (Nat.le_trans B4.size B.size)) HL.out (by omega)).mono fun e w'' h => (show e = .returned (.agg (vecA (macL k (catL ps)))) ∧ Below wr.heap.size wr w'' from ⟨h.1, B.trans (h.2.mono B.size)⟩))
      have S1 := Lib.hid (fun (w' : World) (B : Below wr.heap.size wr w') => (cshort_any A n c k P j c2 ps w' ((HK.out.below (B4.trans (B.mono B4.size))).nums) hkb (by omega) hkc hkm (hparts.below (B4.trans (B.mono B4.size)) (Nat.le_trans B4.size B.size)) HL.out (by omega)).mono fun e w'' h => (show e = .returned (.agg (vecA (shortL k (catL ps)))) ∧ Below wr.heap.size wr w'' from ⟨h.1, B.trans (h.2.mono B.size)⟩))
      have RO := Lib.hid (fun (w' : World) (B : Below wr.heap.size wr w') => (mac_any A n c A4 L c4 k (catL ps) w' ((HK.out.below (B4.trans (B.mono B4.size))).nums) (O4.below B).nums hkb hcb (by omega) (by omega)).mono fun e w'' h => (show e = .returned (.agg (vecA (macL k (catL ps)))) ∧ Below wr.heap.size wr w'' from ⟨h.1, B.trans (h.2.mono B.size)⟩))
      have RS := Lib.hid (fun (w' : World) (B : Below wr.heap.size wr w') => (short_any A n c A4 L c4 k (catL ps) w' ((HK.out.below (B4.trans (B.mono B4.size))).nums) (O4.below B).nums hkb hcb (by omega) (by omega)).mono fun e w'' h => (show e = .returned (.agg (vecA (shortL k (catL ps)))) ∧ Below wr.heap.size wr w'' from ⟨h.1, B.trans (h.2.mono B.size)⟩))
      have AL2 := Lib.hid (fun (w' : World) (B : Below wr.heap.size wr w') => (alive_any w').mono fun e w'' h => (show e = .returned (.bool true) ∧ Below wr.heap.size wr w'' from ⟨h.1, B.trans (h.2.mono B.size)⟩))
      have HB4 := Lib.hid B4
      have CC := Below.refl wr.heap.size wr
      have hg1 := guard20
      have hg2 := guard12
      have he1 := eq20 (mac_len k (catL ps))
      have he2 := eq12 (short_len k (catL ps))
      generalize vecA (macL k (catL ps)) = X at *
      generalize vecA (shortL k (catL ps)) = Y at *
      have hkz : ¬ (j : Int) < (j : Int) := by omega
      clear hparts hF hcb O4 hlt hj B4 hkb hkc hkm
      go_wp2_with (first
        | (go_at_call 9; (with_reducible refine (O1.out _ CC).mono ?_); rintro e w' ⟨rfl, CC⟩)
        | (go_at_call 11; (with_reducible refine (S1.out _ CC).mono ?_); rintro e w' ⟨rfl, CC⟩)
        | (go_at_call 10; (with_reducible refine (RO.out _ CC).mono ?_); rintro e w' ⟨rfl, CC⟩)
        | (go_at_call 12; (with_reducible refine (RS.out _ CC).mono ?_); rintro e w' ⟨rfl, CC⟩)
        | (go_at_call 8; (with_reducible refine (AL2.out _ CC).mono ?_); rintro e w' ⟨rfl, CC⟩))
      go_ret
      exact ⟨rfl, HB4.out.trans (CC.mono HB4.out.size)⟩
theorem hmacparts_walk (A : Option Addr) (n c : Nat) (k : List Int) (P : Option Addr) (m c2 : Nat) (ps : List Part) (w : World) (hk : Key w A n c k) (hp : Came w w.heap.size P ps) (hl : ps.length = m) (hm : m ≤ 9223372036854775807) :
    Calls Try.prog 4 #[.slice A n c, .slice P m c2] w (AliveRet w) := by
  have h1 := hk.cap
  have h2 := hk.max
  by_cases h : 1000 < n ∨ 10 < m
  · exact hmacparts_long A n c P m c2 w (by omega) hm h
  · exact hmacparts_short A n c k P m c2 ps w hk hp hl (by omega) (by omega)
end Go.Proofs.Ytbpolandhjcggaa.hmC
