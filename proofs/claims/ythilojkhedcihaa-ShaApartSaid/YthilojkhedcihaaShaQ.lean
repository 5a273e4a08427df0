/-
  The walk of the second statement.
-/
import Derived.Test.YthilojkhedcihaaShaO
namespace Go.Proofs.Ythilojkhedcihaa.shaC
open Go.ChangeShapes Go.WideShapes Go.ChangeAt Go.RowKit
open Go.Proofs.Ythilojkhedcihaa.memC Go.Proofs.Ythilojkhedcihaa.genC Go.Proofs.Ythilojkhedcihaa.shaM Go.Proofs.Ythilojkhedcihaa.shaN Go.Proofs.Ythilojkhedcihaa.butC Go.Proofs.Ythilojkhedcihaa.partsC Go.Proofs.Ythilojkhedcihaa.freeC
set_option linter.unusedVariables false
/-- all bytes so far: the call's own -/
def AllR (w : World) (T : List Int) (v : Value) (wr : World) : Prop := ∃ A c L, v = .slice A L c ∧ T.length = L ∧ L ≤ c ∧ c ≤ maxLen ∧ Own .u8 5 wr w.heap.size (.slice A L c) T ∧ Below w.heap.size w wr
theorem few_sum {ps : List Part} {N : Nat} : ∀ k, k ≤ ps.length → FewR N ps k → nsum (ps.take k) ≤ N * k
  | 0, _, _ => by simp [nsum]
  | k + 1, hk, h => by
    have h1 := few_sum k (by omega) fun i hi hik => h i hi (by omega)
    have h2 := h k (by omega) (by omega)
    rw [nsum_snoc ps k (by omega), Nat.mul_succ]; omega
theorem came_cat {w : World} {B : Nat} {P : Option Addr} {ps : List Part} (h : Came w B P ps) : ∀ k, k ≤ ps.length → (catL (ps.take k)).length = nsum (ps.take k)
  | 0, _ => by simp [catL, nsum]
  | k + 1, hk => by
    rw [catL_snoc ps k (by omega), List.length_append, came_cat h k (by omega), (h.nums _ (List.getElem_mem (by omega : k < ps.length))).len, nsum_snoc ps k (by omega)]
set_option maxRecDepth 100000 in
set_option maxHeartbeats 1000000 in
theorem parts_walk (P : Option Addr) (m c : Nat) (ps : List Part) (w : World) (hp : Came w w.heap.size P ps) (hl : ps.length = m) (hm : m ≤ 9223372036854775807) :
    Calls Try.prog 4 #[.slice P m c] w (AliveRet w) := by
  obtain ⟨i0, hi0, hz0, hz1, hz2⟩ := info_parts byte_info
  have T1 := Lib.hid hi0; have T2 := Lib.hid hz0; have T3 := Lib.hid hz1; have T4 := Lib.hid hz2
  have HP := Lib.hid hp
  have HL := Lib.hid hl
  have AL := Lib.hid (fun (w' : World) (B : Below w.heap.size w w') => (alive_any w').mono fun e w'' h => (show e = .returned (.bool true) ∧ Below w.heap.size w w'' from ⟨h.1, B.trans (h.2.mono B.size)⟩))
  have BB := Below.refl w.heap.size w
  clear hp hl hi0 hz0 hz1 hz2
  by_cases h20 : 20 < m
  · go_enter Try.func4, Try.ntmps4
    go_wp2_with (go_at_call 8; ((with_reducible refine (AL.out _ BB).mono ?_); rintro e w' ⟨rfl, BB⟩))
    go_ret
    exact ⟨rfl, BB⟩
  · have hm20 : m ≤ 20 := by omega
    have R0 : AllR w (catL (ps.take 0)) (.slice none 0 0) w := ⟨none, 0, 0, rfl, rfl, Nat.le_refl _, Nat.zero_le _, Own.nil _ _, BB⟩
    go_enter Try.func4, Try.ntmps4
    go_wp2_with fail
    go_loopw [3, 12] (fun v i wr => ∃ k : Nat, k ≤ m ∧ i = .int .i64 k ∧ FewR 500 ps k ∧ AllR w (catL (ps.take k)) v wr) (fun _ i _ => m - (intOf i).toNat)
    case atStart => exact ⟨0, Nat.zero_le _, rfl, fun i _ h => absurd h (by omega), R0⟩
    case round =>
      obtain ⟨k, hk, rfl, hfew, A4, c4, L, rfl, hlen, g4, g4', O4, B4⟩ := hrel
      have HF := Lib.hid hfew
      have HLen := Lib.hid hlen
      have hL : L ≤ 10000 := by
        have h1 := few_sum k (by rw [HL.out]; exact hk) hfew
        have h2 := came_cat HP.out k (by rw [HL.out]; exact hk)
        rw [hlen] at h2
        have : 500 * k ≤ 500 * 20 := Nat.mul_le_mul_left _ (by omega)
        omega
      clear hfew hlen R0
      by_cases hlt : k < m
      · have hkl : k < ps.length := by rw [HL.out]; exact hlt
        obtain ⟨b, o, rfl, hbb, hcell⟩ := HP.out.at_ (by rw [HL.out]; omega)
        have cc := (B4.cell (p := ⟨b, o + k, none⟩) hbb).trans (hcell k hkl)
        have hsz := HP.out.size _ (List.getElem_mem hkl)
        have hnp := ((HP.out.nums _ (List.getElem_mem hkl)).below B4).more B4.size
        have HN : Hid (ps[k].n ≤ 500 → FewR 500 ps (k + 1)) := Lib.hid fun h i hi hik => by
          by_cases e : i = k
          · subst e; exact h
          · exact HF.out i hi (by omega)
        have hsn := catL_snoc ps k hkl
        generalize hpk : ps[k] = p at *
        obtain ⟨A, n, c', bs⟩ := p
        simp only at cc hsz HN hnp hsn
        have HSN := Lib.hid hsn
        have HNP := Lib.hid hnp
        have hn63 : n ≤ 9223372036854775807 := by omega
        have hkz : (k : Int) < (m : Int) := by omega
        clear hcell hpk hsn hnp
        by_cases hlong : 500 < n
        · have hlz : (500 : Int) < (n : Int) := by omega
          go_wp2_with (go_at_call 8; ((with_reducible refine (AL.out _ B4).mono ?_); rintro e w' ⟨rfl, BB⟩))
          go_ret
          exact ⟨rfl, BB⟩
        · have hlz : ¬ (500 : Int) < (n : Int) := by omega
          have hn := HN.out (by omega)
          have HN2 := Lib.hid hn
          have hn5 : n ≤ 500 := by omega
          clear hlong hn HN
          go_wp2_with (first
            | (at_builtin; (refine wpList_appT _ rfl (.tmp 20) (.tmp 21) _ rfl 5 i0 _ 1 Try.underlying22 T1.out T2.out T3.out T4.out rfl w.heap.size _ _ rfl O4 wr.heap.size A n c' bs rfl HNP.out (by rw [HLen.out]; simp only [maxLen]; omega) (by rw [HLen.out]; omega) B4.size (L + n) (by rw [HLen.out]) ?_)
               intro A5 c5 w5 g5 g5' O5 B5
               have P5 := Lib.hid (show AllR w (catL (ps.take (k + 1))) (.slice A5 (L + n) c5) w5 by
                 rw [HSN.out]
                 exact ⟨A5, c5, L + n, rfl, by rw [List.length_append, HLen.out, HNP.out.len], g5, g5', O5, B4.trans B5⟩)
               clear O5 B5 g5 g5'))
          clear cc hlz hkz
          go_roundw
          case rel => exact ⟨k + 1, by omega, by go_num, HN2.out, P5.out⟩
          case measure => simp [intOf]; omega
      · have e : k = m := by omega
        subst e
        have hparts := HP.out.parts (N := 500) (by decide) (fun i hi => HF.out i hi (by rw [← HL.out]; exact hi))
        have hF : catL (ps.take k) = catL ps := by rw [List.take_of_length_le (by rw [HL.out]; exact Nat.le_refl _)]
        rw [hF] at O4 HLen
        have hcb := catL_byte (w := w) (B := w.heap.size) (ps := ps) hparts.all
        have OF := Lib.hid ((ofp_any P k c ps wr (hparts.below B4 B4.size) HL.out (by omega)).mono fun e w'' h => (show e = .returned (.agg (digA (catL ps))) ∧ Below wr.heap.size wr w'' from h))
        have RF := Lib.hid (fun (w' : World) (B : Below wr.heap.size wr w') => (of_any A4 L c4 (catL ps) w' (O4.below B).nums hcb (by omega)).mono fun e w'' h => (show e = .returned (.agg (digA (catL ps))) ∧ Below w.heap.size w w'' from ⟨h.1, (B4.trans (B.mono B4.size)).trans (h.2.mono (Nat.le_trans B4.size B.size))⟩))
        have hmm := dig_guard
        have heq := dig_eq (catL ps)
        generalize digA (catL ps) = X at *
        have hkz : ¬ (k : Int) < (k : Int) := by omega
        clear hparts hF hcb O4 hlt hk
        go_wp2_with (first
          | (go_at_call 9; (with_reducible refine OF.out.mono ?_); rintro e w' ⟨rfl, B1⟩)
          | (go_at_call 10; (with_reducible refine (RF.out _ B1).mono ?_); rintro e w' ⟨rfl, BB⟩)
          | (go_at_call 8; (with_reducible refine (AL.out _ BB).mono ?_); rintro e w' ⟨rfl, BB⟩))
        go_ret
        exact ⟨rfl, BB⟩
end Go.Proofs.Ythilojkhedcihaa.shaC
