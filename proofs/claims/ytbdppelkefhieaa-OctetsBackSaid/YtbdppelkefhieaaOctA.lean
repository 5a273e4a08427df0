/-
  What fit, long, and the two Puts do.
-/
import Derived.Test.YtbdppelkefhieaaMem
import Derived.ProofKit
import Derived.Outline
import Derived.Deep.QuietTactic
import Derived.BigQuiet
import Derived.Lib.Hide
import Derived.IntWalk
namespace Go.Proofs.Ytbdppelkefhieaa.octC
open Go.ChangeShapes Go.WideShapes Go.ChangeAt Go.RowKit
open Go.Proofs.Ytbdppelkefhieaa.memC
set_option linter.unusedVariables false
theorem ret_int {k : IntKind} {a b : Int} (h : a = b) : Ending.returned (.int k a) = .returned (.int k b) := by rw [h]
theorem ret_bool {a b : Bool} (h : a = b) : Ending.returned (.bool a) = .returned (.bool b) := by rw [h]

def fitN (size : Int) : Nat := (min (max size 0) 8).toNat
theorem fitN_eq (size : Int) : (fitN size : Int) = min (max size 0) 8 := by unfold fitN; omega
theorem fitN_le (size : Int) : fitN size ≤ 8 := by unfold fitN; omega

theorem fit_any (size : Int) (w : World) (h1 : -9223372036854775808 ≤ size) (h2 : size ≤ 9223372036854775807) :
    Calls Try.prog 29 #[.int .i64 size] w fun e w' => e = .returned (.int .i64 (fitN size)) ∧ w = w' := by
  have E := Lib.hid (fitN_eq size)
  go_enter Try.func29, Try.ntmps29
  go_wp2
  all_goals
    go_ret
    exact ⟨ret_int (by have := E.out; split at * <;> omega), rfl⟩

theorem byte_info : (Try.prog.info? 5).map (fun i => (i.zero, i.size, i.bytes)) = some (some (.int .u8 0), 1, 1) := by kernel_rfl
theorem long_any (A : Option Addr) (n c : Nat) (w : World) (hn : n ≤ 9223372036854775807) :
    Calls Try.prog 8 #[.slice A n c] w fun e w' => e = .returned (.bool (decide (3000 < n))) ∧ w = w' := by
  go_enter Try.func8, Try.ntmps8
  go_wp2
  go_ret
  exact ⟨ret_bool (by rw [decide_eq_decide]; omega), rfl⟩
/-- byte number i of x, from below -/
def byteAt (x : Int) (i : Nat) : Int := x / 2 ^ (8 * i) % 256
/-- the lowest s bytes of x, the highest first -/
def numL : Nat → Int → List Int
  | 0, _ => []
  | s + 1, x => byteAt x s :: numL s x
def putL (bs : List Int) (s : Nat) (ns : List Int) : List Int := bs ++ ns.flatMap (numL s)
theorem numL_len (s : Nat) (x : Int) : (numL s x).length = s := by
  induction s with
  | zero => rfl
  | succ s ih => simp [numL, ih]
theorem flat_len (s : Nat) (ns : List Int) : (ns.flatMap (numL s)).length = s * ns.length := by
  induction ns with
  | nil => simp
  | cons x ns ih => rw [List.flatMap_cons, List.length_append, ih, numL_len, List.length_cons, Nat.mul_add]; omega
theorem byte_of (x : Int) (i : Nat) (hi : i < 8) : x / 2 ^ min ((8 : Int) * (i : Int)).toNat 64 = x / 2 ^ (8 * i) := by
  have : min ((8 : Int) * (i : Int)).toNat 64 = 8 * i := by omega
  rw [this]

/-- what has been put so far, and what is still to come, is T -/
def PutR (w wr : World) (B : Nat) (T : List Int) (v : Value) (rest : List Int) : Prop := ∃ ys, Own .u8 5 wr B v ys ∧ ys ++ rest = T ∧ Below B w wr
theorem len_of {T rest ys : List Int} (h : ys ++ rest = T) : ys.length ≤ T.length := by rw [← h, List.length_append]; omega
theorem put_step {w wr w' : World} {B : Nat} {T : List Int} {v' : Value} {rest ys : List Int} {y : Int} (h : ys ++ y :: rest = T) (hb : Below B w wr) (O : Own .u8 5 w' B v' (ys ++ [y])) (hw : Below B wr w') : PutR w w' B T v' rest :=
  ⟨_, O, by rw [← h]; simp, hb.trans hw⟩
theorem cast_add {a b q n : Nat} (h : a * b = q) : (n : Int) + (q : Int) = ((n + q : Nat) : Int) := by omega

set_option maxRecDepth 100000 in
set_option maxHeartbeats 400000 in
theorem put_any (A : Option Addr) (n c : Nat) (size : Int) (A2 : Option Addr) (m c2 : Nat) (bs ns : List Int) (w : World) (h1 : -9223372036854775808 ≤ size) (h2 : size ≤ 9223372036854775807)
    (hb : Nums .u8 w w.heap.size A n bs) (hns : Nums .u64 w w.heap.size A2 m ns) (hn : n ≤ 3000) (hm : m ≤ 300) :
    Calls Try.prog 10 #[.slice A n c, .int .i64 size, .slice A2 m c2] w fun e w' =>
      ∃ v, e = .returned v ∧ Own .u8 5 w' w.heap.size v (putL bs (fitN size) ns) ∧ Below w.heap.size w w' := by
  have hf := fitN_le size
  obtain ⟨q, hq⟩ : ∃ q, q = fitN size * m := ⟨_, rfl⟩
  have hq8 : q ≤ 2400 := by rw [hq]; exact Nat.mul_le_mul hf hm
  have hqz : (fitN size : Int) * (m : Int) = (q : Int) := by rw [hq]; simp
  have HQ := Lib.hid hq
  clear hq
  obtain ⟨i0, hi0, hz0, hz1, hz2⟩ := info_parts byte_info
  have T1 := Lib.hid hi0; have T2 := Lib.hid hz0; have T3 := Lib.hid hz1; have T4 := Lib.hid hz2
  have b2 : i0.bytes * (n + q) ≤ 281474976710656 := by rw [hz2]; omega
  clear hi0 hz0 hz1 hz2
  go_enter Try.func10, Try.ntmps10
  go_wp2_with (first
    | (go_at_call 29; refine (fit_any _ _ h1 h2).mono ?_; rintro e w' ⟨rfl, rfl⟩)
    | (at_make; (refine wpList_make_own _ rfl (.const (.int .i64 0)) (.tmp 19) _ rfl w.heap.size 5 i0 _ 1 Try.underlying22 T1.out T2.out T3.out .i64 .i64 _ (n + q) rfl rfl (by omega) b2 (by simp only [maxLen]; omega) (Nat.le_refl _) ?_); intro w1 hown1 hg1
       have O1 : Own .u8 5 w1 w.heap.size (.slice (some ⟨w.heap.size, 0, none⟩) 0 (n + q)) [] := hown1
       have B1 : Below w.heap.size w w1 := grown_below hg1 (Nat.le_refl _) (by nofun)
       clear hown1 hg1)
    | (at_builtin; (refine wpList_app _ rfl (.tmp 21) (.tmp 22) _ rfl 5 i0 _ 1 Try.underlying22 T1.out T2.out T3.out T4.out rfl w.heap.size _ [] rfl O1 w.heap.size A n c bs rfl (hb.below B1) (by simp only [maxLen, List.length_nil]; omega) (by simp only [List.length_nil]; omega) B1.size ?_)
       intro v2 w2 O2 hg2
       have B2 : Below w.heap.size w w2 := B1.grown hg2 B1.size fun g hg => (O1.blk g hg).1
       clear hg2))
  have hT : (putL bs (fitN size) ns).length = n + q := by rw [putL, List.length_append, flat_len, hb.len, hns.len, HQ.out]
  have R0 : PutR w w2 w.heap.size (putL bs (fitN size) ns) v2 ((ns.drop 0).flatMap (numL (fitN size))) := ⟨_, O2, by simp [putL], B2⟩
  obtain ⟨T, eT⟩ : ∃ T, T = putL bs (fitN size) ns := ⟨_, rfl⟩
  rw [← eT] at hT R0
  have ET := Lib.hid eT
  clear eT
  clear O1 B1 O2 B2
  go_loopw [7, 26] (fun v i wr => ∃ j : Nat, j ≤ m ∧ i = .int .i64 j ∧ PutR w wr w.heap.size T v ((ns.drop j).flatMap (numL (fitN size)))) (fun _ i _ => m - (intOf i).toNat)
  case atStart => exact ⟨0, Nat.zero_le _, rfl, R0⟩
  case round =>
    obtain ⟨j, hj, rfl, R⟩ := hrel
    by_cases hlt : j < m
    · obtain ⟨b2, o2, rfl, hb2, hcell⟩ := hns.cell hlt
      obtain ⟨x, hx⟩ : ∃ x, x = ns.getD j 0 := ⟨_, rfl⟩
      have hc : wr.cell? ⟨b2, o2 + j, none⟩ = some (.int .u64 x) := by obtain ⟨ys, O, E, Bw⟩ := R; rw [Bw.cell (p := ⟨b2, o2 + j, none⟩) hb2, hx]; exact hcell
      have hdrop : ns.drop j = x :: ns.drop (j + 1) := by
        rw [hx, List.getD_eq_getElem?_getD, List.getElem?_eq_getElem (by rw [hns.len]; exact hlt)]
        exact List.drop_eq_getElem_cons (by rw [hns.len]; exact hlt)
      have R1 : PutR w wr w.heap.size T u7 (numL (fitN size) x ++ (ns.drop (j + 1)).flatMap (numL (fitN size))) := by rw [hdrop, List.flatMap_cons] at R; exact R
      clear hcell hdrop R hx
      obtain ⟨R2, e2⟩ : ∃ R2, R2 = (ns.drop (j + 1)).flatMap (numL (fitN size)) := ⟨_, rfl⟩
      rw [← e2] at R1
      have E2 := Lib.hid e2
      clear e2
      go_wp2_with fail
      obtain ⟨wo, rfl⟩ : ∃ wo : World, wo = wr := ⟨_, rfl⟩
      go_loopw [7, 10] (fun v i wr => ∃ s : Nat, s ≤ fitN size ∧ i = .int .i64 ((s : Int) - 1) ∧ PutR w wr w.heap.size T v (numL s x ++ R2)) (fun _ i _ => (intOf i + 1).toNat)
      case atStart => exact ⟨_, Nat.le_refl _, rfl, R1⟩
      case round =>
        obtain ⟨s, hs, rfl, ys, O, E, Bw⟩ := hrel
        rcases s with _ | s
        · go_wp2_with fail
          go_roundw
          case rel => exact ⟨j + 1, by omega, by go_num, ys, O, by rw [← E2.out]; exact E, Bw⟩
          case measure => simp [intOf]; omega
        · have e1 : ((s + 1 : Nat) : Int) - 1 = (s : Int) := by omega
          rw [e1]
          have hyl := len_of E
          have EE := Lib.hid E
          clear E e1
          go_wp2_with (at_builtin; (refine wpList_app1 _ rfl (.tmp 36) (.tmp 42) _ rfl 5 i0 _ 1 Try.underlying22 T1.out T2.out T3.out T4.out rfl w.heap.size _ ys rfl O _ rfl (by simp only [maxLen]; omega) (by omega) Bw.size ?_)
                       intro v' w' O' B')
          go_roundw
          case rel =>
            refine ⟨s, by omega, by go_num, ?_⟩
            exact put_step EE.out Bw O' B'
          case measure => simp [intOf]
    · obtain ⟨ys, O, E, Bw⟩ := R
      have hj : j = m := by omega
      subst hj
      have E' : ys = T := by rw [← E, List.drop_eq_nil_of_le (by rw [hns.len]; omega)]; simp
      clear E
      subst E'
      go_wp2_with fail
      go_ret
      exact ⟨u7, rfl, by rw [← ET.out]; exact O, Bw⟩
end Go.Proofs.Ytbdppelkefhieaa.octC
