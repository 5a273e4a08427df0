/-
  What the document's Put does.
-/
import Derived.Test.YtbdppelkefhieaaOctA
namespace Go.Proofs.Ytbdppelkefhieaa.octC
open Go.ChangeShapes Go.WideShapes Go.ChangeAt Go.RowKit
open Go.Proofs.Ytbdppelkefhieaa.memC
set_option linter.unusedVariables false
set_option maxRecDepth 100000 in
set_option maxHeartbeats 800000 in
theorem putref_any (A : Option Addr) (n c : Nat) (size : Int) (A2 : Option Addr) (m c2 : Nat) (bs ns : List Int) (w : World) (h1 : -9223372036854775808 ≤ size) (h2 : size ≤ 9223372036854775807)
    (hb : Nums .u8 w w.heap.size A n bs) (hns : Nums .u64 w w.heap.size A2 m ns) (hn : n ≤ 3000) (hm : m ≤ 300) :
    Calls Try.prog 11 #[.slice A n c, .int .i64 size, .slice A2 m c2] w fun e w' =>
      ∃ v, e = .returned v ∧ Own .u8 5 w' w.heap.size v (putL bs (fitN size) ns) ∧ Below w.heap.size w w' := by
  have hf := fitN_le size
  have hfz := fitN_eq size
  obtain ⟨q, hq⟩ : ∃ q, q = fitN size * m := ⟨_, rfl⟩
  have hq8 : q ≤ 2400 := by rw [hq]; exact Nat.mul_le_mul hf hm
  have HQ := Lib.hid hq
  have HF := Lib.hid hfz
  clear hq hfz
  obtain ⟨i0, hi0, hz0, hz1, hz2⟩ := info_parts byte_info
  have T1 := Lib.hid hi0; have T2 := Lib.hid hz0; have T3 := Lib.hid hz1; have T4 := Lib.hid hz2
  clear hi0 hz0 hz1 hz2
  have O1 : Own .u8 5 w w.heap.size (.slice none 0 0) [] := Own.nil _ _
  go_enter Try.func11, Try.ntmps11
  go_wp2_with (first
    | (at_builtin; (refine wpList_app _ rfl (.const (.slice none 0 0)) (.tmp 10) _ rfl 5 i0 _ 1 Try.underlying22 T1.out T2.out T3.out T4.out rfl w.heap.size _ [] rfl O1 w.heap.size A n c bs rfl hb (by simp only [maxLen, List.length_nil]; omega) (by simp only [List.length_nil]; omega) (Nat.le_refl _) ?_)
       intro v2 w2 O2 hg2
       have B2 : Below w.heap.size w w2 := grown_below hg2 (Nat.le_refl _) (by nofun)
       clear hg2))
  have hT : (putL bs (fitN size) ns).length = n + q := by rw [putL, List.length_append, flat_len, hb.len, hns.len, HQ.out]
  have R0 : PutR w w2 w.heap.size (putL bs (fitN size) ns) v2 ((ns.drop 0).flatMap (numL (fitN size))) := ⟨_, O2, by simp [putL], B2⟩
  obtain ⟨T, eT⟩ : ∃ T, T = putL bs (fitN size) ns := ⟨_, rfl⟩
  rw [← eT] at hT R0
  have ET := Lib.hid eT
  clear eT O1 O2 B2
  go_loopw [7, 8] (fun v i wr => ∃ j : Nat, j ≤ m ∧ i = .int .i64 j ∧ PutR w wr w.heap.size T v ((ns.drop j).flatMap (numL (fitN size)))) (fun _ i _ => m - (intOf i).toNat)
  case atStart => exact ⟨0, Nat.zero_le _, rfl, R0⟩
  case round =>
    obtain ⟨j, hj, rfl, R⟩ := hrel
    by_cases hlt : j < m
    · obtain ⟨b2, o2, rfl, hb2, hcell⟩ := hns.cell hlt
      obtain ⟨x, hx⟩ : ∃ x, x = ns.getD j 0 := ⟨_, rfl⟩
      rw [← hx] at hcell
      have hdrop : ns.drop j = x :: ns.drop (j + 1) := by
        rw [hx, List.getD_eq_getElem?_getD, List.getElem?_eq_getElem (by rw [hns.len]; exact hlt)]
        exact List.drop_eq_getElem_cons (by rw [hns.len]; exact hlt)
      have R1 : PutR w wr w.heap.size T u7 (numL (fitN size) x ++ (ns.drop (j + 1)).flatMap (numL (fitN size))) := by rw [hdrop, List.flatMap_cons] at R; exact R
      have HC := Lib.hid hcell
      clear hcell hdrop R hx
      obtain ⟨R2, e2⟩ : ∃ R2, R2 = (ns.drop (j + 1)).flatMap (numL (fitN size)) := ⟨_, rfl⟩
      rw [← e2] at R1
      have E2 := Lib.hid e2
      clear e2
      go_wp2_with fail
      all_goals
        obtain ⟨wo, rfl⟩ : ∃ wo : World, wo = wr := ⟨_, rfl⟩
        go_loopw [7, 9] (fun v i wr => ∃ s : Nat, s ≤ fitN size ∧ i = .int .i64 ((s : Int) - 1) ∧ PutR w wr w.heap.size T v (numL s x ++ R2)) (fun _ i _ => (intOf i + 1).toNat)
        case atStart => exact ⟨fitN size, Nat.le_refl _, congrArg (Value.int .i64) (by have := HF.out; omega), R1⟩
        case round =>
          obtain ⟨s, hs, rfl, ys, O, E, Bw⟩ := hrel
          rcases s with _ | s
          · go_wp2_with fail
            go_roundw
            case rel => exact ⟨j + 1, by omega, by go_num, ys, O, by rw [← E2.out]; exact E, Bw⟩
            case measure => simp [intOf]; omega
          · have e1 : ((s + 1 : Nat) : Int) - 1 = (s : Int) := by omega
            rw [e1]
            have hyl := len_of E
            have EE := Lib.hid E
            have hc : wr.cell? ⟨b2, o2 + j, none⟩ = some (.int .u64 x) := by rw [Bw.cell (p := ⟨b2, o2 + j, none⟩) hb2]; exact HC.out
            clear E e1
            go_wp2_with (at_builtin; (refine wpList_app1 _ rfl (.tmp 26) (.tmp 35) _ rfl 5 i0 _ 1 Try.underlying22 T1.out T2.out T3.out T4.out rfl w.heap.size _ ys rfl O _ rfl (by simp only [maxLen]; omega) (by omega) Bw.size ?_)
                         intro v' w' O' B')
            go_roundw
            case rel =>
              refine ⟨s, by omega, by go_num, ?_⟩
              exact put_step EE.out Bw O' B'
            case measure => simp [intOf]
    · obtain ⟨ys, O, E, Bw⟩ := R
      have hj : j = m := by omega
      subst hj
      have E' : ys = T := by rw [← E, List.drop_eq_nil_of_le (by rw [hns.len]; omega)]; simp
      clear E
      subst E'
      go_wp2_with fail
      go_ret
      exact ⟨u7, rfl, by rw [← ET.out]; exact O, Bw⟩
end Go.Proofs.Ytbdppelkefhieaa.octC
