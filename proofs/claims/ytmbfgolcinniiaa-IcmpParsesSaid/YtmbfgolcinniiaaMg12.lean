/-
  1 texts of a proof, joined.
-/
import Derived.Test.YtmbfgolcinniiaaMg10
import Derived.Test.YtmbfgolcinniiaaMg11
import Derived.Test.YtmbfgolcinniiaaMg3
import Derived.Lib.AppendZeros
import Derived.Lib.SliceRun
import Derived.StillTactics
import Derived.StillTailTactics
import Derived.Laws.BitsAllLaws

/-
  The program's addresses: how many bytes, which ones, and which groups.
-/
namespace Go.Proofs.Ytmbfgolcinniiaa.adC
open Go.ChangeShapes Go.WideShapes Go.ChangeAt Go.RowKit
open Go.Proofs.Ytmbfgolcinniiaa.memC Go.Proofs.Ytmbfgolcinniiaa.genC Go.Proofs.Ytmbfgolcinniiaa.butC Go.Proofs.Ytmbfgolcinniiaa.freeC Go.Proofs.Ytmbfgolcinniiaa.txC
set_option linter.unusedVariables false
/-- bytes that are the call's own -/
def BytRet (w : World) (bs : List Int) (e : Ending) (w' : World) : Prop :=
  ∃ A n c, e = .returned (.slice A n c) ∧ bs.length = n ∧ n ≤ c ∧ c ≤ maxLen ∧ Own .u8 5 w' w.heap.size (.slice A n c) bs ∧ Below w.heap.size w w'
set_option maxRecDepth 100000 in
theorem clone_any (ad : Addr) (n c : Nat) (bs : List Int) (w : World) (hb : Nums .u8 w w.heap.size (some ad) n bs) (hn : n ≤ 1000) :
    Calls Try.prog 40 #[.slice (some ad) n c] w (BytRet w bs) := by
  obtain ⟨i0, hi0, hz0, hz1, hz2⟩ := info_parts byte_inf
  have T1 := Lib.hid hi0; have T2 := Lib.hid hz0; have T3 := Lib.hid hz1; have T4 := Lib.hid hz2
  have HB0 := Lib.hid (alloc_below w (.cells #[] 5))
  have HN := Lib.hid ((hb.below HB0.out).more HB0.out.size)
  have HL := Lib.hid hb.len
  have HO0 : Hid (Own .u8 5 (w.alloc (.cells #[] 5)) w.heap.size (.slice (some ⟨w.heap.size, 0, none⟩) 0 0) []) := Lib.hid (World.ownsRow_lit w #[] 0 (Nat.le_refl _) (Nat.zero_le _) rfl)
  clear hi0 hz0 hz1 hz2 hb
  have q : ∀ w', (binOp .eql 24 (.slice (some ad) n c) (.slice none 0 0)).run Try.prog w' = .ok (.bool false) w' := fun w' => Lib.run_eql_slice_nil w' _ _ (some ad) n c 0 0 Try.underlying24
  go_enter Try.func40, Try.ntmps40
  go_wp2_with (first
    | (at_builtin; (refine wpList_app _ rfl (.tmp 5) (.tmp 6) _ rfl 5 i0 _ 1 Try.underlying24 T1.out T2.out T3.out T4.out rfl w.heap.size _ [] rfl HO0.out _ (some ad) n c bs rfl HN.out (by simp only [maxLen, List.length_nil]; omega) (by simp only [List.length_nil]; omega) HB0.out.size ?_)
       intro v' w' O' hg'
       have Bn : Hid (Below w.heap.size w w') := Lib.hid (Below.grown HB0.out hg' HB0.out.size fun g hg => (HO0.out.blk g hg).1)
       have HO := Lib.hid O'
       clear hg' O'))
  go_ret
  obtain ⟨A, cap, ev, h1, h2, h3⟩ := HO.out.form
  have O := HO.out
  simp only [List.nil_append] at ev h1 h3 O
  subst ev
  rw [HL.out] at h1 O ⊢
  exact ⟨A, n, cap, rfl, HL.out, h1, h2, O, Bn.out⟩
end Go.Proofs.Ytmbfgolcinniiaa.adC
