/-
  What the document's Hex does.
-/
import Derived.Test.YtbdppelkefhieaaHexA
namespace Go.Proofs.Ytbdppelkefhieaa.hexC
open Go.ChangeShapes Go.WideShapes Go.ChangeAt Go.RowKit
open Go.Proofs.Ytbdppelkefhieaa.memC Go.Proofs.Ytbdppelkefhieaa.hexM Go.Proofs.Ytbdppelkefhieaa.octC
set_option linter.unusedVariables false
theorem strOf_append (xs ys : List Int) : strOfNums xs ++ strOfNums ys = strOfNums (xs ++ ys) := by
  apply ByteArray.ext
  simp [strOfNums, ByteArray.data_append]
theorem str_add {xs ys : List Int} (h : xs.length + ys.length ≤ 100000) (w : World) :
    (Op.stringOp .add (strOfNums xs) (strOfNums ys)).run Try.prog w = .ok (.string (strOfNums (xs ++ ys))) w := by
  rw [← strOf_append]
  exact run_string_add_sum w (strOfNums xs) (strOfNums ys) (by have e1 := strOfNums_size xs; have e2 := strOfNums_size ys; omega)
set_option maxRecDepth 100000 in
set_option maxHeartbeats 1000000 in
theorem hexref_any (A : Option Addr) (n c : Nat) (bs : List Int) (w : World) (hb : Nums .u8 w w.heap.size A n bs) (hn : n ≤ 10000) (hy : ∀ x ∈ bs, Byte x) :
    Calls Try.prog 17 #[.slice A n c] w fun e w' => e = .returned (.string (strOfNums (hexL bs))) ∧ Below w.heap.size w w' := by
  go_enter Try.func17, Try.ntmps17
  go_wp2_with fail
  go_loopw [4, 5] (fun v i wr => ∃ k : Nat, k ≤ n ∧ i = .int .i64 k ∧ v = .string (strOfNums (hexL (bs.take k))) ∧ Below w.heap.size w wr) (fun _ i _ => n - (intOf i).toNat)
  case atStart => exact ⟨0, Nat.zero_le _, rfl, rfl, Below.refl _ _⟩
  case round =>
    obtain ⟨k, hk, rfl, rfl, Bw⟩ := hrel
    by_cases hlt : k < n
    · obtain ⟨b, o, rfl, hbb, hcell⟩ := hb.cell hlt
      have hyk := getD_byte hy (k := k) (by rw [hb.len]; exact hlt)
      have HT := Lib.hid (hexL_take bs k (by rw [hb.len]; exact hlt))
      have hc : wr.cell? ⟨b, o + k, none⟩ = some (.int .u8 (bs.getD k 0)) := (Bw.cell (p := ⟨b, o + k, none⟩) hbb).trans hcell
      obtain ⟨y, ey⟩ : ∃ y, y = bs.getD k 0 := ⟨_, rfl⟩
      rw [← ey] at hyk HT hc
      obtain ⟨y0, y1⟩ := hyk
      obtain ⟨p, ep⟩ : ∃ p, p = y / 16 := ⟨_, rfl⟩
      obtain ⟨q, eq⟩ : ∃ q, q = y % 16 := ⟨_, rfl⟩
      have s1 := sign_cut (h := p) (by omega) (by omega)
      have s2 := sign_cut (h := q) (by omega) (by omega)
      have u1 : IntKind.u8.wrap (p + 1) = p + 1 := by have : 0 ≤ p ∧ p ≤ 15 := by omega
                                                      simp [IntKind.wrap, IntKind.bits, IntKind.signed]; omega
      have u2 : IntKind.u8.wrap (q + 1) = q + 1 := by have : 0 ≤ q ∧ q ≤ 15 := by omega
                                                      simp [IntKind.wrap, IntKind.bits, IntKind.signed]; omega
      rw [← ep, ← eq] at HT
      have hp : y.tdiv 16 = p := by rw [Int.tdiv_eq_ediv_of_nonneg y0]; exact ep.symm
      have hq : y.tmod 16 = q := by rw [Int.tmod_eq_emod_of_nonneg y0]; exact eq.symm
      have hpw : IntKind.u8.wrap p = p := by have : 0 ≤ p ∧ p ≤ 15 := by omega
                                             simp [IntKind.wrap, IntKind.bits, IntKind.signed]; omega
      have hqw : IntKind.u8.wrap q = q := by have : 0 ≤ q ∧ q ≤ 15 := by omega
                                             simp [IntKind.wrap, IntKind.bits, IntKind.signed]; omega
      have p0 : 0 ≤ p := by omega
      have p1 : p ≤ 15 := by omega
      have q0 : 0 ≤ q := by omega
      have q1 : q ≤ 15 := by omega
      have HL : (hexL (bs.take k)).length ≤ 20000 := by rw [hexL_len, List.length_take]; omega
      have a1 := str_add (xs := [hexD p]) (ys := [hexD q]) (by simp)
      have a2 := str_add (xs := hexL (bs.take k)) (ys := [hexD p, hexD q]) (by simp; omega)
      clear ey hcell ep eq
      go_wp2_with fail
      go_quiet (fail)
      go_wp2_with fail
      go_roundw
      case rel => exact ⟨k + 1, by omega, by go_num, by rw [HT.out], ⟨Bw.os, Bw.tape, Bw.output, Bw.size, Bw.block⟩⟩
      case measure => simp [intOf]; omega
    · have e : k = n := by omega
      subst e
      have e2 : bs.take k = bs := List.take_of_length_le (by rw [hb.len]; omega)
      rw [e2]
      have HB := Lib.hid e2
      clear e2
      go_wp2_with fail
      go_ret
      exact ⟨rfl, Bw⟩
end Go.Proofs.Ytbdppelkefhieaa.hexC
