/-
  1 texts of a proof, joined.
-/
import Derived.Test.YtflfkhcbkhdahaaMg20
import Derived.Laws.BitsAllLaws
import Derived.WalkSpells
import Derived.WalkLawsBesides

/-
  What a reader does: Read, Left, take, Num.
-/
namespace Go.Proofs.Ytflfkhcbkhdahaa.octC
open Go.ChangeShapes Go.WideShapes Go.ChangeAt Go.RowKit
open Go.Proofs.Ytflfkhcbkhdahaa.memC
set_option linter.unusedVariables false
theorem clone_none (n c : Nat) (w : World) :
    Calls Try.prog 50 #[.slice none n c] w fun e w' => e = .returned (.slice none 0 0) ∧ w = w' := by
  have q := fun (w : World) (a : Option Addr) (n c n' c' : Nat) => Lib.run_eql_slice_nil (P := Try.prog) w _ _ a n c n' c' Try.underlying39
  go_enter Try.func50, Try.ntmps50
  go_wp2
  go_ret
  exact ⟨rfl, rfl⟩
def OwnRet (w : World) (bs : List Int) (e : Ending) (w' : World) : Prop := ∃ A c, e = .returned (.slice A bs.length c) ∧ Own .u8 5 w' w.heap.size (.slice A bs.length c) bs ∧ bs.length ≤ c ∧ c ≤ maxLen ∧ Nums .u8 w' w'.heap.size A bs.length bs ∧ Below w.heap.size w w'
theorem own_ret {w w' : World} {bs : List Int} {e : Ending} {v : Value} (he : e = .returned v) (O : Own .u8 5 w' w.heap.size v bs) (B : Below w.heap.size w w') : OwnRet w bs e w' := by
  obtain ⟨A, c, rfl, h1, h2, N⟩ := O.form
  exact ⟨A, c, he, O, h1, h2, N, B⟩
theorem clone_some (a : Addr) (n c : Nat) (bs : List Int) (w : World) (hb : Nums .u8 w w.heap.size (some a) n bs) (hn : n ≤ 100000) :
    Calls Try.prog 50 #[.slice (some a) n c] w (OwnRet w bs) := by
  have q := fun (w : World) (a : Option Addr) (n c n' c' : Nat) => Lib.run_eql_slice_nil (P := Try.prog) w _ _ a n c n' c' Try.underlying39
  obtain ⟨i0, hi0, hz0, hz1, hz2⟩ := info_parts byte_info
  have T1 := Lib.hid hi0; have T2 := Lib.hid hz0; have T3 := Lib.hid hz1; have T4 := Lib.hid hz2
  clear hi0 hz0 hz1 hz2
  have O1 : Own .u8 5 (w.alloc (.cells #[] 5)) w.heap.size (.slice (some ⟨w.heap.size, 0, none⟩) 0 0) [] := World.ownsRow_lit w #[] 0 (Nat.le_refl _) (Nat.zero_le _) rfl
  have B1 : Below w.heap.size w (w.alloc (.cells #[] 5)) := (Below.refl _ _).alloc (Nat.le_refl _) _
  go_enter Try.func50, Try.ntmps50
  go_wp2_with (at_builtin
               (refine wpList_app _ rfl (.tmp 5) (.tmp 6) _ rfl 5 i0 _ 1 Try.underlying39 T1.out T2.out T3.out T4.out rfl w.heap.size _ [] rfl O1 w.heap.size _ n c bs rfl (hb.below B1) (by simp only [maxLen, List.length_nil]; omega) (by simp only [List.length_nil]; omega) B1.size ?_)
               intro v2 w2 O2 hg2
               have B2 : Below w.heap.size w w2 := B1.grown hg2 B1.size fun g hg => (O1.blk g hg).1
               clear hg2)
  go_ret
  exact own_ret rfl (by simpa using O2) B2
theorem clone_any (A : Option Addr) (n c : Nat) (bs : List Int) (w : World) (hb : Nums .u8 w w.heap.size A n bs) (hn : n ≤ 100000) :
    Calls Try.prog 50 #[.slice A n c] w (OwnRet w bs) := by
  rcases A with _ | a
  · have h0 : n = 0 := by
      rcases Nat.eq_zero_or_pos n with h | h
      · exact h
      · obtain ⟨b, o, h, _⟩ := hb.at_ h; cases h
    subst h0
    obtain rfl := hb.zero
    exact (clone_none 0 c w).mono fun e w' ⟨he, hw⟩ => own_ret he (hw ▸ Own.nil _ _) (hw ▸ Below.refl _ _)
  · exact clone_some a n c bs w hb hn
end Go.Proofs.Ytflfkhcbkhdahaa.octC
