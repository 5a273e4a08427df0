/-
  5 texts of a proof, joined.
-/
import Derived.Test.YtmbfgolcinniiaaMg5
import Derived.Lib.Bytealg
import Derived.Lib.BytesEntry
import Derived.Test.YtmbfgolcinniiaaRows
import Derived.WalkKit
import Derived.ProofKit
import Derived.OpenShut
import Derived.ShutString
import Derived.ChangeOld
import Derived.Below
import Derived.RegionTactic
import Derived.Test.YtmbfgolcinniiaaMg1
import Derived.Outline
import Derived.Deep.QuietTactic
import Derived.BigQuiet
import Derived.Lib.Hide
import Derived.IntWalk

/-
  bytes.Compare: which of two slices of bytes is ahead.
-/
namespace Go.Proofs.Ytmbfgolcinniiaa.adC
open Go.ChangeShapes Go.WideShapes Go.ChangeAt Go.RowKit
open Go.Proofs.Ytmbfgolcinniiaa.memC Go.Proofs.Ytmbfgolcinniiaa.genC
set_option linter.unusedVariables false
/-- which of two lists of numbers is ahead: -1, 0, 1 -/
def lexL : List Int → List Int → Int
  | [], [] => 0
  | [], _ :: _ => -1
  | _ :: _, [] => 1
  | x :: a, y :: b => if x < y then -1 else if y < x then 1 else lexL a b
theorem lexL_self : ∀ (a : List Int), lexL a a = 0
  | [] => rfl
  | x :: a => by unfold lexL; rw [if_neg (by omega), if_neg (by omega)]; exact lexL_self a
theorem lexL_zero : ∀ (a b : List Int), lexL a b = 0 → a = b
  | [], [], _ => rfl
  | [], _ :: _, h => by simp [lexL] at h
  | _ :: _, [], h => by simp [lexL] at h
  | x :: a, y :: b, h => by
    unfold lexL at h
    by_cases h1 : x < y
    · rw [if_pos h1] at h; cases h
    · by_cases h2 : y < x
      · rw [if_neg h1, if_pos h2] at h; cases h
      · rw [if_neg h1, if_neg h2] at h
        obtain rfl : x = y := by omega
        rw [lexL_zero a b h]
theorem u8_lt {x y : Int} (hx : Byte x) (hy : Byte y) : UInt8.ofNat x.toNat < UInt8.ofNat y.toNat ↔ x < y := by
  obtain ⟨h1, h2⟩ := hx
  obtain ⟨h3, h4⟩ := hy
  rw [UInt8.lt_iff_toNat_lt, UInt8.toNat_ofNat', UInt8.toNat_ofNat']
  omega
theorem lexL_bytes : ∀ (a b : List Int), (∀ x ∈ a, Byte x) → (∀ x ∈ b, Byte x) → Lib.compareBytes (Lib.bytesOf a) (Lib.bytesOf b) = lexL a b
  | [], [], _, _ => rfl
  | [], _ :: _, _, _ => rfl
  | _ :: _, [], _, _ => rfl
  | x :: a, y :: b, ha, hb => by
    have ih := lexL_bytes a b (fun z hz => ha z (by simp [hz])) (fun z hz => hb z (by simp [hz]))
    have h1 := u8_lt (ha x (by simp)) (hb y (by simp))
    have h2 := u8_lt (hb y (by simp)) (ha x (by simp))
    unfold lexL
    show (if UInt8.ofNat x.toNat < UInt8.ofNat y.toNat then (-1 : Int) else if UInt8.ofNat y.toNat < UInt8.ofNat x.toNat then 1 else Lib.compareBytes (Lib.bytesOf a) (Lib.bytesOf b)) = _
    rw [ih]
    by_cases h3 : x < y
    · rw [if_pos (h1.2 h3), if_pos h3]
    · rw [if_neg (fun h => h3 (h1.1 h)), if_neg h3]
      by_cases h4 : y < x
      · rw [if_pos (h2.2 h4), if_pos h4]
      · rw [if_neg (fun h => h4 (h2.1 h)), if_neg h4]
end Go.Proofs.Ytmbfgolcinniiaa.adC

/-
  Strings of bytes, compared.
-/
namespace Go.Proofs.Ytmbfgolcinniiaa.adC
open Go.ChangeShapes Go.WideShapes Go.ChangeAt Go.RowKit
open Go.Proofs.Ytmbfgolcinniiaa.memC Go.Proofs.Ytmbfgolcinniiaa.genC
set_option linter.unusedVariables false
theorem str_eqb {xs ys : List Int} (hx : ∀ x ∈ xs, Byte x) (hy : ∀ x ∈ ys, Byte x) : ((strOfNums xs).toList == (strOfNums ys).toList) = (lexL xs ys == 0) := by
  rw [Lib.strOfNums_toList, Lib.strOfNums_toList]
  by_cases h : xs = ys
  · subst h
    rw [lexL_self]; simp
  · have h1 : lexL xs ys ≠ 0 := fun e => h (lexL_zero _ _ e)
    rw [beq_eq_false_iff_ne.2 h1]
    refine beq_eq_false_iff_ne.2 fun e => h1 ?_
    rw [← lexL_bytes xs ys hx hy, e, lexL_bytes ys ys hy hy]
    exact lexL_self ys
theorem seq_run {P : Program} {o : Oper} {a : Act} {w : World} {T : TypeId} {s x : Operand} {S S' : ByteArray} {R : TypeId} {q : Bool} (ho : o.op = .binOp .eql T s x R) (hs : a.eval s = .string S) (hx : a.eval x = .string S') (hq : (S.toList == S'.toList) = q) : (execOp a.eval o).run P w = .ok (.value (.bool q)) w := by
  unfold execOp
  rw [ho]
  simp only [hs, hx]
  go_simp
end Go.Proofs.Ytmbfgolcinniiaa.adC

/-
  Which operation a walk stands at: told by its form alone, so that an arm that does not fit falls at once.
-/
namespace Go.Proofs.Ytmbfgolcinniiaa.atC
open Go.ChangeShapes Go.WideShapes Go.ChangeAt Go.RowKit
section
variable {P : Program} {ops : Array Oper} {rest : List Oper} {a : Act} {w : World} {Q : Exit → Act → World → Prop} {d : Option Tmp} {t : TypeId} {p : String} {f : Array Edge} {g : Option (Nat × Bool)}
theorem at_load (ty : TypeId) (s : Tmp) (h : wpList P ops Q (⟨d, .load ty (.tmp s), t, p, f, g⟩ :: rest) a w) : wpList P ops Q (⟨d, .load ty (.tmp s), t, p, f, g⟩ :: rest) a w := h
theorem at_bin {x y : Operand} {r : TypeId} (o : BinOp) (ty : TypeId) (h : wpList P ops Q (⟨d, .binOp o ty x y r, t, p, f, g⟩ :: rest) a w) : wpList P ops Q (⟨d, .binOp o ty x y r, t, p, f, g⟩ :: rest) a w := h
theorem at_one {o : Oper} (h : wpList P ops Q (o :: rest) a w) : wpList P ops Q (o :: rest) a w := h
end
end Go.Proofs.Ytmbfgolcinniiaa.atC

/-
  What fit and the code's Put do (as stage 2 told it, without what its statements name).
-/
namespace Go.Proofs.Ytmbfgolcinniiaa.octC
open Go.ChangeShapes Go.WideShapes Go.ChangeAt Go.RowKit
open Go.Proofs.Ytmbfgolcinniiaa.memC
set_option linter.unusedVariables false
theorem ret_int {k : IntKind} {a b : Int} (h : a = b) : Ending.returned (.int k a) = .returned (.int k b) := by rw [h]
def fitN (size : Int) : Nat := (min (max size 0) 8).toNat
theorem fitN_eq (size : Int) : (fitN size : Int) = min (max size 0) 8 := by unfold fitN; omega
theorem fitN_le (size : Int) : fitN size ≤ 8 := by unfold fitN; omega
theorem fit_any (size : Int) (w : World) (h1 : -9223372036854775808 ≤ size) (h2 : size ≤ 9223372036854775807) :
    Calls Try.prog 41 #[.int .i64 size] w fun e w' => e = .returned (.int .i64 (fitN size)) ∧ w = w' := by
  have E := Lib.hid (fitN_eq size)
  go_enter Try.func41, Try.ntmps41
  go_wp2
  all_goals
    go_ret
    exact ⟨ret_int (by have := E.out; split at * <;> omega), rfl⟩
theorem byte_info : (Try.prog.info? 5).map (fun i => (i.zero, i.size, i.bytes)) = some (some (.int .u8 0), 1, 1) := by kernel_rfl
/-- byte number i of x, from below -/
def byteAt (x : Int) (i : Nat) : Int := x / 2 ^ (8 * i) % 256
/-- the lowest s bytes of x, the highest first -/
def numL : Nat → Int → List Int
  | 0, _ => []
  | s + 1, x => byteAt x s :: numL s x
def putL (bs : List Int) (s : Nat) (ns : List Int) : List Int := bs ++ ns.flatMap (numL s)
theorem numL_len (s : Nat) (x : Int) : (numL s x).length = s := by
  induction s with
  | zero => rfl
  | succ s ih => simp [numL, ih]
theorem flat_len (s : Nat) (ns : List Int) : (ns.flatMap (numL s)).length = s * ns.length := by
  induction ns with
  | nil => simp
  | cons x ns ih => rw [List.flatMap_cons, List.length_append, ih, numL_len, List.length_cons, Nat.mul_add]; omega
/-- what has been put so far, and what is still to come, is T -/
def PutR (w wr : World) (B : Nat) (T : List Int) (v : Value) (rest : List Int) : Prop := ∃ ys, Own .u8 5 wr B v ys ∧ ys ++ rest = T ∧ Below B w wr
theorem len_of {T rest ys : List Int} (h : ys ++ rest = T) : ys.length ≤ T.length := by rw [← h, List.length_append]; omega
theorem put_step {w wr w' : World} {B : Nat} {T : List Int} {v' : Value} {rest ys : List Int} {y : Int} (h : ys ++ y :: rest = T) (hb : Below B w wr) (O : Own .u8 5 w' B v' (ys ++ [y])) (hw : Below B wr w') : PutR w w' B T v' rest :=
  ⟨_, O, by rw [← h]; simp, hb.trans hw⟩
set_option maxRecDepth 100000 in
set_option maxHeartbeats 400000 in
theorem put_any (A : Option Addr) (n c : Nat) (size : Int) (A2 : Option Addr) (m c2 : Nat) (bs ns : List Int) (w : World) (h1 : -9223372036854775808 ≤ size) (h2 : size ≤ 9223372036854775807)
    (hb : Nums .u8 w w.heap.size A n bs) (hns : Nums .u64 w w.heap.size A2 m ns) (hn : n ≤ 3000) (hm : m ≤ 300) :
    Calls Try.prog 25 #[.slice A n c, .int .i64 size, .slice A2 m c2] w fun e w' =>
      ∃ v, e = .returned v ∧ Own .u8 5 w' w.heap.size v (putL bs (fitN size) ns) ∧ Below w.heap.size w w' := by
  have hf := fitN_le size
  obtain ⟨q, hq⟩ : ∃ q, q = fitN size * m := ⟨_, rfl⟩
  have hq8 : q ≤ 2400 := by rw [hq]; exact Nat.mul_le_mul hf hm
  have hqz : (fitN size : Int) * (m : Int) = (q : Int) := by rw [hq]; simp
  have HQ := Lib.hid hq
  clear hq
  obtain ⟨i0, hi0, hz0, hz1, hz2⟩ := info_parts byte_info
  have T1 := Lib.hid hi0; have T2 := Lib.hid hz0; have T3 := Lib.hid hz1; have T4 := Lib.hid hz2
  have b2 : i0.bytes * (n + q) ≤ 281474976710656 := by rw [hz2]; omega
  clear hi0 hz0 hz1 hz2
  go_enter Try.func25, Try.ntmps25
  go_wp2_with (first
    | (go_at_call 41; refine (fit_any _ _ h1 h2).mono ?_; rintro e w' ⟨rfl, rfl⟩)
    | (at_make; (refine wpList_make_own _ rfl (.const (.int .i64 0)) (.tmp 19) _ rfl w.heap.size 5 i0 _ 1 Try.underlying24 T1.out T2.out T3.out .i64 .i64 _ (n + q) rfl rfl (by omega) b2 (by simp only [maxLen]; omega) (Nat.le_refl _) ?_); intro w1 hown1 hg1
       have O1 : Own .u8 5 w1 w.heap.size (.slice (some ⟨w.heap.size, 0, none⟩) 0 (n + q)) [] := hown1
       have B1 : Below w.heap.size w w1 := grown_below hg1 (Nat.le_refl _) (by nofun)
       clear hown1 hg1)
    | (at_builtin; (refine wpList_app _ rfl (.tmp 21) (.tmp 22) _ rfl 5 i0 _ 1 Try.underlying24 T1.out T2.out T3.out T4.out rfl w.heap.size _ [] rfl O1 w.heap.size A n c bs rfl (hb.below B1) (by simp only [maxLen, List.length_nil]; omega) (by simp only [List.length_nil]; omega) B1.size ?_)
       intro v2 w2 O2 hg2
       have B2 : Below w.heap.size w w2 := B1.grown hg2 B1.size fun g hg => (O1.blk g hg).1
       clear hg2))
  have hT : (putL bs (fitN size) ns).length = n + q := by rw [putL, List.length_append, flat_len, hb.len, hns.len, HQ.out]
  have R0 : PutR w w2 w.heap.size (putL bs (fitN size) ns) v2 ((ns.drop 0).flatMap (numL (fitN size))) := ⟨_, O2, by simp [putL], B2⟩
  obtain ⟨T, eT⟩ : ∃ T, T = putL bs (fitN size) ns := ⟨_, rfl⟩
  rw [← eT] at hT R0
  have ET := Lib.hid eT
  clear eT
  clear O1 B1 O2 B2
  go_loopw [7, 26] (fun v i wr => ∃ j : Nat, j ≤ m ∧ i = .int .i64 j ∧ PutR w wr w.heap.size T v ((ns.drop j).flatMap (numL (fitN size)))) (fun _ i _ => m - (intOf i).toNat)
  case atStart => exact ⟨0, Nat.zero_le _, rfl, R0⟩
  case round =>
    obtain ⟨j, hj, rfl, R⟩ := hrel
    by_cases hlt : j < m
    · obtain ⟨b2, o2, rfl, hb2, hcell⟩ := hns.cell hlt
      obtain ⟨x, hx⟩ : ∃ x, x = ns.getD j 0 := ⟨_, rfl⟩
      have hc : wr.cell? ⟨b2, o2 + j, none⟩ = some (.int .u64 x) := by obtain ⟨ys, O, E, Bw⟩ := R; rw [Bw.cell (p := ⟨b2, o2 + j, none⟩) hb2, hx]; exact hcell
      have hdrop : ns.drop j = x :: ns.drop (j + 1) := by
        rw [hx, List.getD_eq_getElem?_getD, List.getElem?_eq_getElem (by rw [hns.len]; exact hlt)]
        exact List.drop_eq_getElem_cons (by rw [hns.len]; exact hlt)
      have R1 : PutR w wr w.heap.size T u7 (numL (fitN size) x ++ (ns.drop (j + 1)).flatMap (numL (fitN size))) := by rw [hdrop, List.flatMap_cons] at R; exact R
      clear hcell hdrop R hx
      obtain ⟨R2, e2⟩ : ∃ R2, R2 = (ns.drop (j + 1)).flatMap (numL (fitN size)) := ⟨_, rfl⟩
      rw [← e2] at R1
      have E2 := Lib.hid e2
      clear e2
      go_wp2_with fail
      obtain ⟨wo, rfl⟩ : ∃ wo : World, wo = wr := ⟨_, rfl⟩
      go_loopw [7, 10] (fun v i wr => ∃ s : Nat, s ≤ fitN size ∧ i = .int .i64 ((s : Int) - 1) ∧ PutR w wr w.heap.size T v (numL s x ++ R2)) (fun _ i _ => (intOf i + 1).toNat)
      case atStart => exact ⟨_, Nat.le_refl _, rfl, R1⟩
      case round =>
        obtain ⟨s, hs, rfl, ys, O, E, Bw⟩ := hrel
        rcases s with _ | s
        · go_wp2_with fail
          go_roundw
          case rel => exact ⟨j + 1, by omega, by go_num, ys, O, by rw [← E2.out]; exact E, Bw⟩
          case measure => simp [intOf]; omega
        · have e1 : ((s + 1 : Nat) : Int) - 1 = (s : Int) := by omega
          rw [e1]
          have hyl := len_of E
          have EE := Lib.hid E
          clear E e1
          go_wp2_with (at_builtin; (refine wpList_app1 _ rfl (.tmp 36) (.tmp 42) _ rfl 5 i0 _ 1 Try.underlying24 T1.out T2.out T3.out T4.out rfl w.heap.size _ ys rfl O _ rfl (by simp only [maxLen]; omega) (by omega) Bw.size ?_)
                       intro v' w' O' B')
          go_roundw
          case rel =>
            refine ⟨s, by omega, by go_num, ?_⟩
            exact put_step EE.out Bw O' B'
          case measure => simp [intOf]
    · obtain ⟨ys, O, E, Bw⟩ := R
      have hj : j = m := by omega
      subst hj
      have E' : ys = T := by rw [← E, List.drop_eq_nil_of_le (by rw [hns.len]; omega)]; simp
      clear E
      subst E'
      go_wp2_with fail
      go_ret
      exact ⟨u7, rfl, by rw [← ET.out]; exact O, Bw⟩
end Go.Proofs.Ytmbfgolcinniiaa.octC

/-
  What the document's Put does.
-/
namespace Go.Proofs.Ytmbfgolcinniiaa.octC
open Go.ChangeShapes Go.WideShapes Go.ChangeAt Go.RowKit
open Go.Proofs.Ytmbfgolcinniiaa.memC
set_option linter.unusedVariables false
set_option maxRecDepth 100000 in
set_option maxHeartbeats 800000 in
theorem putref_any (A : Option Addr) (n c : Nat) (size : Int) (A2 : Option Addr) (m c2 : Nat) (bs ns : List Int) (w : World) (h1 : -9223372036854775808 ≤ size) (h2 : size ≤ 9223372036854775807)
    (hb : Nums .u8 w w.heap.size A n bs) (hns : Nums .u64 w w.heap.size A2 m ns) (hn : n ≤ 9000) (hm : m ≤ 300) :
    Calls Try.prog 43 #[.slice A n c, .int .i64 size, .slice A2 m c2] w fun e w' =>
      ∃ v, e = .returned v ∧ Own .u8 5 w' w.heap.size v (putL bs (fitN size) ns) ∧ Below w.heap.size w w' := by
  have hf := fitN_le size
  have hfz := fitN_eq size
  obtain ⟨q, hq⟩ : ∃ q, q = fitN size * m := ⟨_, rfl⟩
  have hq8 : q ≤ 2400 := by rw [hq]; exact Nat.mul_le_mul hf hm
  have HQ := Lib.hid hq
  have HF := Lib.hid hfz
  clear hq hfz
  obtain ⟨i0, hi0, hz0, hz1, hz2⟩ := info_parts byte_info
  have T1 := Lib.hid hi0; have T2 := Lib.hid hz0; have T3 := Lib.hid hz1; have T4 := Lib.hid hz2
  clear hi0 hz0 hz1 hz2
  have O1 : Own .u8 5 w w.heap.size (.slice none 0 0) [] := Own.nil _ _
  go_enter Try.func43, Try.ntmps43
  go_wp2_with (first
    | (at_builtin; (refine wpList_app _ rfl (.const (.slice none 0 0)) (.tmp 10) _ rfl 5 i0 _ 1 Try.underlying24 T1.out T2.out T3.out T4.out rfl w.heap.size _ [] rfl O1 w.heap.size A n c bs rfl hb (by simp only [maxLen, List.length_nil]; omega) (by simp only [List.length_nil]; omega) (Nat.le_refl _) ?_)
       intro v2 w2 O2 hg2
       have B2 : Below w.heap.size w w2 := grown_below hg2 (Nat.le_refl _) (by nofun)
       clear hg2))
  have hT : (putL bs (fitN size) ns).length = n + q := by rw [putL, List.length_append, flat_len, hb.len, hns.len, HQ.out]
  have R0 : PutR w w2 w.heap.size (putL bs (fitN size) ns) v2 ((ns.drop 0).flatMap (numL (fitN size))) := ⟨_, O2, by simp [putL], B2⟩
  obtain ⟨T, eT⟩ : ∃ T, T = putL bs (fitN size) ns := ⟨_, rfl⟩
  rw [← eT] at hT R0
  have ET := Lib.hid eT
  clear eT O1 O2 B2
  go_loopw [7, 8] (fun v i wr => ∃ j : Nat, j ≤ m ∧ i = .int .i64 j ∧ PutR w wr w.heap.size T v ((ns.drop j).flatMap (numL (fitN size)))) (fun _ i _ => m - (intOf i).toNat)
  case atStart => exact ⟨0, Nat.zero_le _, rfl, R0⟩
  case round =>
    obtain ⟨j, hj, rfl, R⟩ := hrel
    by_cases hlt : j < m
    · obtain ⟨b2, o2, rfl, hb2, hcell⟩ := hns.cell hlt
      obtain ⟨x, hx⟩ : ∃ x, x = ns.getD j 0 := ⟨_, rfl⟩
      rw [← hx] at hcell
      have hdrop : ns.drop j = x :: ns.drop (j + 1) := by
        rw [hx, List.getD_eq_getElem?_getD, List.getElem?_eq_getElem (by rw [hns.len]; exact hlt)]
        exact List.drop_eq_getElem_cons (by rw [hns.len]; exact hlt)
      have R1 : PutR w wr w.heap.size T u7 (numL (fitN size) x ++ (ns.drop (j + 1)).flatMap (numL (fitN size))) := by rw [hdrop, List.flatMap_cons] at R; exact R
      have HC := Lib.hid hcell
      clear hcell hdrop R hx
      obtain ⟨R2, e2⟩ : ∃ R2, R2 = (ns.drop (j + 1)).flatMap (numL (fitN size)) := ⟨_, rfl⟩
      rw [← e2] at R1
      have E2 := Lib.hid e2
      clear e2
      go_wp2_with fail
      all_goals
        obtain ⟨wo, rfl⟩ : ∃ wo : World, wo = wr := ⟨_, rfl⟩
        go_loopw [7, 9] (fun v i wr => ∃ s : Nat, s ≤ fitN size ∧ i = .int .i64 ((s : Int) - 1) ∧ PutR w wr w.heap.size T v (numL s x ++ R2)) (fun _ i _ => (intOf i + 1).toNat)
        case atStart => exact ⟨fitN size, Nat.le_refl _, congrArg (Value.int .i64) (by have := HF.out; omega), R1⟩
        case round =>
          obtain ⟨s, hs, rfl, ys, O, E, Bw⟩ := hrel
          rcases s with _ | s
          · go_wp2_with fail
            go_roundw
            case rel => exact ⟨j + 1, by omega, by go_num, ys, O, by rw [← E2.out]; exact E, Bw⟩
            case measure => simp [intOf]; omega
          · have e1 : ((s + 1 : Nat) : Int) - 1 = (s : Int) := by omega
            rw [e1]
            have hyl := len_of E
            have EE := Lib.hid E
            have hc : wr.cell? ⟨b2, o2 + j, none⟩ = some (.int .u64 x) := by rw [Bw.cell (p := ⟨b2, o2 + j, none⟩) hb2]; exact HC.out
            clear E e1
            go_wp2_with (at_builtin; (refine wpList_app1 _ rfl (.tmp 26) (.tmp 35) _ rfl 5 i0 _ 1 Try.underlying24 T1.out T2.out T3.out T4.out rfl w.heap.size _ ys rfl O _ rfl (by simp only [maxLen]; omega) (by omega) Bw.size ?_)
                         intro v' w' O' B')
            go_roundw
            case rel =>
              refine ⟨s, by omega, by go_num, ?_⟩
              exact put_step EE.out Bw O' B'
            case measure => simp [intOf]
    · obtain ⟨ys, O, E, Bw⟩ := R
      have hj : j = m := by omega
      subst hj
      have E' : ys = T := by rw [← E, List.drop_eq_nil_of_le (by rw [hns.len]; omega)]; simp
      clear E
      subst E'
      go_wp2_with fail
      go_ret
      exact ⟨u7, rfl, by rw [← ET.out]; exact O, Bw⟩
end Go.Proofs.Ytmbfgolcinniiaa.octC
