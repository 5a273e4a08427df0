/-
  The walk of the fifth statement of octets.
-/
import Derived.Test.YtbdppelkefhieaaOctT
namespace Go.Proofs.Ytbdppelkefhieaa.octC
open Go.ChangeShapes Go.WideShapes Go.ChangeAt Go.RowKit
open Go.Proofs.Ytbdppelkefhieaa.memC
set_option linter.unusedVariables false
def TR (w : World) (S L p : Nat) (size : Int) (wr : World) : Prop := wr.cell? ⟨S, 0, none⟩ = some (.int .i64 size) ∧ wr.cell? ⟨L, 0, none⟩ = some (.pointer none) ∧ wr.cell? ⟨L, 1, none⟩ = some (.pointer (some ⟨p, 0, none⟩)) ∧ Rd wr p [] ∧ Below w.heap.size w wr
theorem TR.below {w : World} {S L p : Nat} {size : Int} {wr wr' : World} (h : TR w S L p size wr) (b : Below wr.heap.size wr wr') : TR w S L p size wr' := by
  obtain ⟨h1, h2, h3, ⟨A, n, c, g1, g2, g3, N, g4, g5⟩, B⟩ := h
  refine ⟨(b.cell (p := ⟨S, 0, none⟩) (World.block_lt_of_cell? _ _ h1)).trans h1, (b.cell (p := ⟨L, 0, none⟩) (World.block_lt_of_cell? _ _ h2)).trans h2, (b.cell (p := ⟨L, 1, none⟩) (World.block_lt_of_cell? _ _ h3)).trans h3, ?_, B.trans (b.mono B.size)⟩
  exact ⟨A, n, c, (b.cell (p := ⟨p, 0, none⟩) g3).trans g1, (b.frozen (p := ⟨p, 0, none⟩) g3).trans g2, Nat.lt_of_lt_of_le g3 b.size, N.below (b.mono (Nat.le_of_lt g3)), g4, g5⟩
/-- the four variables that the readings share -/
def W4 (w : World) (size : Int) (own : Bool) : World := (((w.alloc (.cells #[.int .i64 size] 3)).alloc (.cells #[.bool own] 4)).alloc (.cells #[.bool false] 4)).alloc (.cells #[.int .i64 0] 31)
theorem try_outer4 (w : World) (size : Int) (own : Bool) :
    Calls Try.prog 20 #[.func (.func 24) #[] #[.pointer (some ⟨w.heap.size + 1, 0, none⟩), .pointer (some ⟨w.heap.size + 1 + 1, 0, none⟩), .pointer (some ⟨w.heap.size + 1 + 1 + 1, 0, none⟩)]] (W4 w size own) fun e w' =>
      e = .returned (.int .i64 0) ∧ w'.cell? ⟨w.heap.size, 0, none⟩ = some (.int .i64 size) ∧ w'.cell? ⟨w.heap.size + 1, 0, none⟩ = some (.bool own) ∧ w'.cell? ⟨w.heap.size + 1 + 1, 0, none⟩ = some (.bool (!own)) ∧
      w'.cell? ⟨w.heap.size + 1 + 1 + 1, 0, none⟩ = some (.int .i64 (if own then 4 else 0)) ∧ Below w.heap.size w w' := by
  have hsz : (W4 w size own).heap.size = w.heap.size + 1 + 1 + 1 + 1 := by simp [W4]
  have c0 : (W4 w size own).cell? ⟨w.heap.size, 0, none⟩ = some (.int .i64 size) := by unfold W4; go_simp
  have c1 : (W4 w size own).cell? ⟨w.heap.size + 1, 0, none⟩ = some (.bool own) := by unfold W4; go_simp
  refine (try_outer own (w.heap.size + 1) (w.heap.size + 1 + 1) (w.heap.size + 1 + 1 + 1) (W4 w size own) (by omega) (by omega) (by omega) c1 (by unfold W4; go_simp) (by unfold W4; go_simp) (by unfold W4; go_simp) (by unfold W4; go_simp)).mono ?_
  rintro e w' ⟨rfl, F, o1, o2⟩
  refine ⟨rfl, (F.cell (a := ⟨w.heap.size, 0, none⟩) (by rw [hsz]; show w.heap.size < _; omega) (fun h => by have h : w.heap.size = w.heap.size + 1 + 1 ∨ w.heap.size = w.heap.size + 1 + 1 + 1 := h; omega)).trans c0,
    (F.cell (a := ⟨w.heap.size + 1, 0, none⟩) (by rw [hsz]; show w.heap.size + 1 < _; omega) (fun h => by have h : w.heap.size + 1 = w.heap.size + 1 + 1 ∨ w.heap.size + 1 = w.heap.size + 1 + 1 + 1 := h; omega)).trans c1, o1, o2, ?_⟩
  refine Below.trans ?_ (F.to_below (fun k hk => by omega) (by rw [hsz]; omega))
  exact ((((Below.refl _ _).alloc (Nat.le_refl _) _).alloc (by simp) _).alloc (by simp; omega) _).alloc (by simp; omega) _
theorem TR.at_ {w : World} {S L p : Nat} {size : Int} {wr : World} (h : TR w S L p size wr) {k : Nat} (hk : k < 2) : ∃ a, wr.cell? ⟨L, k, none⟩ = some (.pointer a) ∧ Nobody wr (.pointer a) := by
  obtain ⟨h1, h2, h3, h4, _⟩ := h
  rcases (show k = 0 ∨ k = 1 by omega) with rfl | rfl
  · exact ⟨_, h2, .inl rfl⟩
  · exact ⟨_, h3, .inr ⟨p, rfl, h4⟩⟩
set_option maxRecDepth 100000 in
set_option maxHeartbeats 1000000 in
theorem tries_walk (size : Int) (own : Bool) (w : World) (hs1 : -9223372036854775808 ≤ size) (hs2 : size ≤ 9223372036854775807) :
    Calls Try.prog 7 #[.int .i64 size, .bool own] w (AliveRet w) := by
  have hmf : ∀ (fn : Fn) (first cap : Array Value) (w : World), (Instr.makeFunc fn first cap).run Try.prog w = .ok (.func fn first cap) w := fun _ _ _ _ => rfl
  have T := try_outer4 w size own
  unfold W4 at T
  have TT := Lib.hid T
  clear T
  cases own
  all_goals
    go_enter Try.func7, Try.ntmps7
    go_wp2_with (go_at_call 20
                 refine TT.out.mono ?_
                 rintro e w1 ⟨rfl, g0, g1, g2, g3, B1⟩
                 simp only [Bool.not_true, Bool.not_false, if_true, if_false, Bool.false_eq_true] at g2 g3)
    have T0 : TR w w.heap.size (w1.heap.size + 1) w1.heap.size size ((w1.alloc (.cells #[.slice none 0 0] 47)).alloc (.cells #[.pointer none, .pointer (some ⟨w1.heap.size, 0, none⟩)] 39)) := by
      have BB : Below w1.heap.size w1 ((w1.alloc (.cells #[.slice none 0 0] 47)).alloc (.cells #[.pointer none, .pointer (some ⟨w1.heap.size, 0, none⟩)] 39)) := ((Below.refl _ _).alloc (Nat.le_refl _) _).alloc (by simp) _
      exact ⟨(BB.cell (p := ⟨w.heap.size, 0, none⟩) (World.block_lt_of_cell? _ _ g0)).trans g0, by go_simp, by go_simp, ⟨none, 0, 0, by go_simp, by go_simp, by simp; omega, Nums.none_ 0, Nat.le_refl _, Nat.zero_le _⟩, B1.trans (BB.mono B1.size)⟩
    generalize ((w1.alloc (.cells #[.slice none 0 0] 47)).alloc (.cells #[.pointer none, .pointer (some ⟨w1.heap.size, 0, none⟩)] 39)) = W at *
    generalize w1.heap.size = q at *
    clear g0 g1 g2 g3 B1
    go_loopw [30] (fun i wr => ∃ k : Nat, k ≤ 2 ∧ i = .int .i64 k ∧ TR w w.heap.size (q + 1) q size wr) (fun i _ => 2 - (intOf i).toNat)
    case atStart => exact ⟨0, by omega, rfl, T0⟩
    case round =>
      obtain ⟨k, hk, rfl, H⟩ := hrel
      by_cases hlt : k < 2
      · obtain ⟨a, hc, hN⟩ := H.at_ hlt
        have Ba : Below wr.heap.size wr (wr.alloc (.cells #[.pointer a] 39)) := (Below.refl _ _).alloc (Nat.le_refl _) _
        have hS := H.1
        have lS := World.block_lt_of_cell? _ _ hS
        have hS' := (Ba.cell (p := ⟨w.heap.size, 0, none⟩) lS).trans hS
        have hr' : (wr.alloc (.cells #[.pointer a] 39)).cell? ⟨wr.heap.size, 0, none⟩ = some (.pointer a) := by go_simp
        have hN' := hN.below Ba
        have T := Lib.hid (try_num wr.heap.size w.heap.size (.pointer a) size _ hr' hS' hN' hs1 hs2)
        have HH := Lib.hid (H.below Ba)
        have HS := Lib.hid hS'
        have HR := Lib.hid hr'
        have lR := World.block_lt_of_cell? _ _ hr'
        have lS' := World.block_lt_of_cell? _ _ hS'
        clear hS hS' hr' H hN
        by_cases hz : size ≤ 0
        all_goals
          go_wp2_with (first
            | (go_at_call 20
               refine T.out.mono ?_
               rintro e w2 ⟨he, Bt⟩
               first | rw [if_pos hz] at he | rw [if_neg hz] at he
               subst he
               have f1 := (Bt.cell (p := ⟨wr.heap.size, 0, none⟩) lR).trans HR.out
               have f2 := (Bt.cell (p := ⟨w.heap.size, 0, none⟩) lS').trans HS.out
               have N2 := hN'.below Bt)
            | (go_at_call 23; refine (nobody_left (.pointer a) _ N2).mono ?_; rintro e w' ⟨rfl, rfl⟩))
          go_roundw
          case rel => exact ⟨k + 1, by omega, by go_num, HH.out.below Bt⟩
          case measure => simp [intOf]; omega
      · go_wp2_with (go_at_call 9; refine (alive_any _).mono ?_; rintro e w' ⟨rfl, hg⟩)
        go_ret
        exact ⟨rfl, H.2.2.2.2.trans (hg.mono H.2.2.2.2.size)⟩
end Go.Proofs.Ytbdppelkefhieaa.octC
