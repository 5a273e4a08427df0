/-
  1 texts of a proof, joined.
-/
import Derived.Test.YtcnnpfjommiafaaMg14
import Derived.RangeFuncNested
import Derived.RangeFuncBound
import Derived.RangeFuncCalls
import Derived.RangeFuncLeaves
import Derived.Shelf.Abstract
import Derived.OwnWalkIn
import Derived.TacticsInMore
import Derived.LoopNIn
import Derived.LoopIn

/-
  A range over a function: its rounds walked as plain code; the library's chunks of a slice of bytes.
-/
namespace Go.Proofs.Ytcnnpfjommiafaa.fgC
open Go.ChangeShapes Go.WideShapes Go.ChangeAt Go.RowKit
open Go.Proofs.Ytcnnpfjommiafaa.memC Go.Proofs.Ytcnnpfjommiafaa.genC Go.Proofs.Ytcnnpfjommiafaa.butC Go.Proofs.Ytcnnpfjommiafaa.freeC Go.Proofs.Ytcnnpfjommiafaa.adC
open Go.Proofs.Ytcnnpfjommiafaa.pkC (Pkt pktL pktV pktT adrC)
set_option linter.unusedVariables false
attribute [local go_sem] Oper.semAt_some
def noDefer (o : Oper) : Bool := match o.op with | .defer _ => false | _ => true
/-- operations in a round do what they do anywhere -/
theorem round_list {P : Program} {l₀ n : Nat} {ops : Array Oper} {Q : Exit → Act → World → Prop} (hQ : ¬ LetsOut Q) : ∀ (l : List Oper), l.all noDefer = true → ∀ (a : Act) (w : World), wpList P ops Q l a w → wpListIn (Fence.wide.inRound l₀) n P ops Q l a w
  | [], _, a, w, h => h
  | o :: rest, hd, a, w, h => by
    rw [List.all_cons, Bool.and_eq_true] at hd
    have ih := round_list (P := P) (l₀ := l₀) (n := n) (ops := ops) hQ rest hd.2
    unfold wpList at h
    unfold wpListIn
    split
    · rename_i hw
      rw [if_pos hw] at h
      rcases h with h | ⟨-, h⟩
      · refine ⟨fun _ _ => trivial, ?_⟩
        have e : o.semAt (Fence.wide.inRound l₀).round a.eval = execOp a.eval o := Oper.semAt_some l₀ a.eval o (fun c hc => by
          have := hd.1
          unfold noDefer at this
          rw [hc] at this
          cases this)
        rw [e]
        unfold Oper.wp at h
        generalize (execOp a.eval o).run P w = r at h ⊢
        have kd : (Fence.wide.inRound l₀).depth.isSome = true → 1 ≤ n := fun q => by cases q
        cases r with
        | ok x w' =>
          cases x with
          | value v => exact ih _ _ h
          | skip => exact ih _ _ h
          | defer d => exact ih _ _ h
          | enter f args =>
            refine ⟨kd, CallsIn.inRound l₀ (callsIn_wide.2 (Calls.mono h ?_))⟩
            intro e w'' h2
            cases e with
            | returned v => exact ih _ _ h2
            | panicked ch => exact h2
            | outgrown => exact h2
          | row s args =>
            refine ⟨kd, ?_⟩
            intro c cs _
            obtain ⟨v, w2, r2, s2⟩ := h c cs
            exact ⟨v, w2, ih _ _ r2, stepsIn_wide.2 s2⟩
          | _ => exact h.elim
        | halt x w' =>
          cases x with
          | panic v => exact h
          | _ => exact h.elim
      · exact absurd h hQ
    · rename_i hw
      rw [if_neg hw] at h
      exact ⟨fun _ _ => trivial, ih _ _ h⟩
/-- a region of a round -/
theorem round_region {P : Program} {l₀ n id : Nat} {Q : Exit → Act → World → Prop} {l : List Oper} {a : Act} {w : World} (hd : l.all noDefer = true) (hQ : ¬ LetsOut Q) (h : wpList P l.toArray Q l a w) : (Code.region id l.toArray false).wpIn (Fence.wide.inRound l₀) n P Q a w :=
  wpIn_region_lit (round_list hQ l hd a w h)
theorem cut_tail (A : Option Addr) (n c f : Nat) (h1 : f ≤ n) (h2 : n ≤ c) (w : World) :
    (Instr.slice 26 (.slice A n c) (some (.int .i64 (f : Int))) none none).run Try.prog w = .ok (.slice (if c = f then A else A.map (·.add f)) (n - f) (c - f)) w := by
  have k1 : (f : Int) ≤ (n : Int) := by omega
  by_cases h : c = f
  · subst h
    rw [if_pos rfl]
    go_simp
  · rw [if_neg h]
    go_simp
theorem cut_max (A : Option Addr) (n c f e : Nat) (h1 : f ≤ e) (h2 : e ≤ c) (w : World) :
    (Instr.slice 26 (.slice A n c) (some (.int .i64 (f : Int))) (some (.int .i64 (e : Int))) (some (.int .i64 (e : Int)))).run Try.prog w = .ok (.slice (if e = f then A else A.map (·.add f)) (e - f) (e - f)) w := by
  have k1 : (f : Int) ≤ (e : Int) := by omega
  have k2 : (e : Int) ≤ (c : Int) := by omega
  by_cases h : e = f
  · subst h
    rw [if_pos rfl]
    go_simp
  · rw [if_neg h]
    go_simp
/-- a piece of the slice -/
def chV (A : Option Addr) (n sz x : Nat) : Value := .slice (A.map (·.add (x * sz))) (min sz (n - x * sz)) (min sz (n - x * sz))
/-- what the library's own boxes hold stands -/
def Kb (Bs Bn : Nat) (W W' : World) : Prop := W'.heap[Bs]? = W.heap[Bs]? ∧ W'.heap[Bn]? = W.heap[Bn]?
theorem Kb.trans {Bs Bn : Nat} {A B C : World} (h : Kb Bs Bn A B) (k : Kb Bs Bn B C) : Kb Bs Bn A C := ⟨k.1.trans h.1, k.2.trans h.2⟩
set_option maxRecDepth 100000 in
set_option maxHeartbeats 2000000 in
theorem chunk1_in (m l Bs Bn : Nat) (A : Option Addr) (n c sz N : Nat) (hsz : 0 < sz) (hs1 : sz ≤ 100000) (hn : n ≤ 100000) (hnc : n ≤ c) (hcm : c ≤ 9223372036854775807) (hN : ∀ i, i < N ↔ i * sz < n) (J Jx : List Nat → World → Prop) (Bz : Nat) (hJ : AbidesFrom Bz J)
    (hY : ∀ pre x W, J pre W → pre.length < N → YieldAt Fence.wide (m - 1) Try.prog l #[chV A n sz x] W fun e W' =>
      (e = .returned (.bool true) ∧ J (pre ++ [x]) W' ∧ Kb Bs Bn W W') ∨ (e = .returned (.bool false) ∧ Jx (pre ++ [x]) W'))
    (W : World) (h1 : W.heap[Bs]? = some (.cells #[.slice A n c] 26 (0, 0))) (h2 : W.heap[Bn]? = some (.cells #[.int .i64 (sz : Int)] 3 (0, 0))) (h0 : J [] W) :
    CallsIn Fence.wide m Try.prog 54 #[.func (.yield l) #[] #[], .pointer (some ⟨Bs, 0, none⟩), .pointer (some ⟨Bn, 0, none⟩)] W fun e W' => (∃ v, e = .returned v) ∧
      ((∃ ys, ys = List.range N ∧ J ys W') ∨ (∃ pre, True ∧ Jx pre W')) := by
  refine callsIn_of_wp Try.func54 rfl trivial ?_ rfl
  simp only [Try.ntmps54, List.size_toArray, List.length_cons, List.length_nil, Nat.reduceAdd, Nat.reduceSub, Array.replicate_succ, Array.replicate_zero, List.push_toArray, List.append_toArray, List.nil_append, List.cons_append]
  have HY := Lib.hid hY
  have HN := Lib.hid hN
  have H1 := Lib.hid h1
  have H2 := Lib.hid h2
  have HS := Lib.hid (show 0 < sz ∧ sz ≤ 100000 ∧ n ≤ 100000 ∧ n ≤ c ∧ c ≤ 9223372036854775807 from ⟨hsz, hs1, hn, hnc, hcm⟩)
  have HJ := Lib.hid h0
  clear hY hN h1 h2 hsz hs1 hn hnc hcm h0
  gi_wp2
  gi_loopw [4] (fun i wr => ∃ (k I : Nat), I = k * sz ∧ i = .int .i64 (I : Int) ∧ J (List.range k) wr ∧ Kb Bs Bn W wr ∧ k ≤ N)
    (fun i _ => 300000 - (intOf i).toNat)
  case atStart => exact ⟨0, 0, (Nat.zero_mul _).symm, rfl, HJ.out, ⟨rfl, rfl⟩, Nat.zero_le _⟩
  case round =>
    obtain ⟨k, I, hI, rfl, hJs, hK, hkN⟩ := hrel
    have c1 : wr.cell? ⟨Bs, 0, none⟩ = some (.slice A n c) := cell_of_row wr Bs 0 _ _ (0, 0) (hK.1.trans H1.out)
    have c2 : wr.cell? ⟨Bn, 0, none⟩ = some (.int .i64 (sz : Int)) := cell_of_row wr Bn 0 _ _ (0, 0) (hK.2.trans H2.out)
    have HI := Lib.hid hI
    have HK := Lib.hid hK
    have HJs := Lib.hid hJs
    have HkN := Lib.hid hkN
    clear hI hK hJs hkN
    by_cases hin : I < n
    rotate_left
    · have q : ¬ (I : Int) < (n : Int) := by omega
      have hkq : k = N := by
        have h3 := HN.out k
        rw [← HI.out] at h3
        have := HkN.out
        omega
      subst hkq
      clear hin
      gi_wp2
      go_end0
      exact ⟨⟨_, rfl⟩, .inl HJs.out⟩
    have q : (I : Int) < (n : Int) := by omega
    obtain ⟨M, hM⟩ : ∃ M, M = n - I := ⟨_, rfl⟩
    obtain ⟨E, hE⟩ : ∃ E, E = min sz M := ⟨_, rfl⟩
    have hkN : k < N := (HN.out k).2 (by rw [← HI.out]; exact hin)
    have hs9 := HS.out
    have hsl : ∀ w', (Instr.slice 26 (.slice A n c) (some (.int .i64 (I : Int))) none none).run Try.prog w' = .ok (.slice (A.map (·.add I)) M (c - I)) w' := fun w' => by
      have h9 := cut_tail A n c I (by omega) (by omega) w'
      rw [if_neg (by omega), ← hM] at h9
      exact h9
    have hmin : (if (M : Int) < (sz : Int) then (M : Int) else (sz : Int)) = (E : Int) := by split <;> omega
    have hminN : (if M < sz then (M : Int) else (sz : Int)) = (E : Int) := by split <;> omega
    have hsx : ∀ w', (Instr.slice 26 (.slice A n c) (some (.int .i64 (I : Int))) (some (.int .i64 ((I : Int) + (E : Int)))) (some (.int .i64 ((I : Int) + (E : Int))))).run Try.prog w' = .ok (chV A n sz k) w' := fun w' => by
      obtain ⟨K, hK⟩ : ∃ K, K = I + E := ⟨_, rfl⟩
      have e1 : (I : Int) + (E : Int) = (K : Int) := by omega
      rw [e1]
      have h9 := cut_max A n c I K (by omega) (by omega) w'
      rw [if_neg (by omega), show K - I = E by omega, HI.out] at h9
      unfold chV
      rw [← HI.out, ← hM, ← hE]
      rw [← HI.out] at h9
      exact h9
    have wIE : IntKind.i64.wrap ((I : Int) + (E : Int)) = (I : Int) + (E : Int) := IntWalk.i64_in _ (by omega)
    have HE := Lib.hid (show M = n - I ∧ E = min sz M ∧ I < n from ⟨hM, hE, hin⟩)
    clear hM hE hin hs9
    gi_wp2
    refine wpIn_wide.2 ?_
    go_quiet (fail)
    have JD : J (List.range k) (wr.drewN nq) := hJ _ wr _ none HJs.out ⟨rfl, rfl, rfl, Nat.le_refl _, fun _ _ _ => rfl⟩ (fun r e => by cases e)
    obtain ⟨fn, tmps, assign, body, hy, hR⟩ := HY.out _ k (wr.drewN nq) JD (by rw [List.length_range]; exact hkN)
    have c1' : (wr.drewN nq).cell? ⟨Bs, 0, none⟩ = some (.slice A n c) := c1
    have c2' : (wr.drewN nq).cell? ⟨Bn, 0, none⟩ = some (.int .i64 (sz : Int)) := c2
    have K2 := Lib.hid (show Kb Bs Bn W (wr.drewN nq) from HK.out)
    clear c1 c2 JD HJs HK
    generalize wr.drewN nq = w2 at *
    gi_wp2
    refine ⟨fun q => (by cases q), hR.mono ?_⟩
    clear c1' c2' wIE hsx hsl hmin hminN q hR hy
    have HJ2 := Lib.hid hJ
    clear hJ
    rintro e W3 (⟨rfl, hJ3, hk3⟩ | ⟨rfl, hJx3⟩)
    · have c2 : W3.cell? ⟨Bn, 0, none⟩ = some (.int .i64 (sz : Int)) := cell_of_row W3 Bn 0 _ _ (0, 0) ((K2.out.trans hk3).2.trans H2.out)
      obtain ⟨I2, hI2⟩ : ∃ I2, I2 = I + sz := ⟨_, rfl⟩
      have hadd : (I : Int) + (sz : Int) = (I2 : Int) := by omega
      have wI2 : IntKind.i64.wrap (I2 : Int) = (I2 : Int) := IntWalk.i64_in _ (by have := HS.out; have := HE.out; omega)
      have HI2 := Lib.hid hI2
      have HJ3 := Lib.hid hJ3
      have HK3 := Lib.hid hk3
      have HKN := Lib.hid hkN
      clear hI2 hJ3 hk3 hkN
      gi_wp2
      go_roundw
      case rel => exact ⟨k + 1, I2, by rw [HI2.out, HI.out, Nat.succ_mul], rfl, by rw [List.range_succ]; exact HJ3.out, K2.out.trans HK3.out, HKN.out⟩
      case measure => have h1 := HS.out; have h2 := HE.out; have h3 := HI2.out; simp [intOf]; omega
    · have HX := Lib.hid hJx3
      clear hJx3
      gi_wp2
      refine bodyPost_ret (results_none rfl _ _ _) rfl ?_
      exact ⟨⟨_, rfl⟩, .inr ⟨_, trivial, HX.out⟩⟩
/-- slices.Chunk -/
theorem chunk_any (A : Option Addr) (n c sz : Nat) (w : World) (hsz : 0 < sz) (hs1 : sz ≤ 9223372036854775807) :
    Calls Try.prog 37 #[.slice A n c, .int .i64 (sz : Int)] w fun e w' => e = .returned (.func (.func 54) #[] #[.pointer (some ⟨w.heap.size, 0, none⟩), .pointer (some ⟨w.heap.size + 1, 0, none⟩)]) ∧ w' = (w.alloc (.cells #[.slice A n c] 26)).alloc (.cells #[.int .i64 (sz : Int)] 3) := by
  have q : ¬ (sz : Int) < 1 := by omega
  clear hsz hs1
  go_enter Try.func37, Try.ntmps37
  go_wp2
  go_ret
  exact ⟨rfl, rfl⟩
theorem chunk_stops (m Bs Bn : Nat) (A : Option Addr) (n c sz N : Nat) (hsz : 0 < sz) (hs1 : sz ≤ 100000) (hn : n ≤ 100000) (hnc : n ≤ c) (hcm : c ≤ 9223372036854775807) (hN : ∀ i, i < N ↔ i * sz < n) (W : World) (h1 : W.heap[Bs]? = some (.cells #[.slice A n c] 26 (0, 0))) (h2 : W.heap[Bn]? = some (.cells #[.int .i64 (sz : Int)] 3 (0, 0))) :
    SeqStopsK Fence.wide m Try.prog 54 #[.pointer (some ⟨Bs, 0, none⟩), .pointer (some ⟨Bn, 0, none⟩)] (fun x : Nat => #[chV A n sz x]) (Kb Bs Bn) (fun ys => ys = List.range N) (fun _ => True) N W := fun l J Jx W1 hW hJ hJx hY h0 =>
  chunk1_in m l Bs Bn A n c sz N hsz hs1 hn hnc hcm hN J Jx _ hJ hY W1 ((hW.block Bs (Array.getElem?_eq_some_iff.1 h1).1).trans h1) ((hW.block Bn (Array.getElem?_eq_some_iff.1 h2).1).trans h2) h0
end Go.Proofs.Ytcnnpfjommiafaa.fgC
