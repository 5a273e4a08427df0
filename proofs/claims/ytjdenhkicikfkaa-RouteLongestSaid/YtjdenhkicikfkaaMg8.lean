/-
  1 texts of a proof, joined.
-/
import Derived.Test.YtjdenhkicikfkaaMg5
import Derived.Test.YtjdenhkicikfkaaMg7
import Derived.Test.YtjdenhkicikfkaaMg1
import Derived.Lib.AppendZeros
import Derived.Lib.SliceRun
import Derived.StillTactics
import Derived.StillTailTactics
import Derived.Laws.BitsAllLaws

/-
  The program's addresses: how many bytes, which ones, and which groups.
-/
namespace Go.Proofs.Ytjdenhkicikfkaa.adC
open Go.ChangeShapes Go.WideShapes Go.ChangeAt Go.RowKit
open Go.Proofs.Ytjdenhkicikfkaa.memC Go.Proofs.Ytjdenhkicikfkaa.genC Go.Proofs.Ytjdenhkicikfkaa.butC Go.Proofs.Ytjdenhkicikfkaa.freeC Go.Proofs.Ytjdenhkicikfkaa.txC
set_option linter.unusedVariables false
theorem csize_any (s : Bool) (b : List Int) (w : World) (h : b.length = 16) (z : Int) (hz : z = (adrN s : Int)) : Calls Try.prog 29 #[.agg (adrV s b)] w (Ret w (.int .i64 z)) := by
  subst hz
  have k1 : (w.alloc (.cells (adrV s b) 25)).cell? ⟨w.heap.size, 0, none⟩ = some (.bool s) := by rw [cell_new]; exact adrV_six _ _
  have B := Lib.hid (alloc_below w (.cells (adrV s b) 25))
  generalize adrV s b = C at *
  cases s
  all_goals
    go_enter Try.func29, Try.ntmps29
    go_wp2
    go_ret
    exact ⟨rfl, B.out⟩
/-- bytes that are the call's own -/
def BytRet (w : World) (bs : List Int) (e : Ending) (w' : World) : Prop :=
  ∃ A n c, e = .returned (.slice A n c) ∧ bs.length = n ∧ n ≤ c ∧ c ≤ maxLen ∧ Own .u8 5 w' w.heap.size (.slice A n c) bs ∧ Below w.heap.size w w'
set_option maxRecDepth 100000 in
theorem clone_any (ad : Addr) (n c : Nat) (bs : List Int) (w : World) (hb : Nums .u8 w w.heap.size (some ad) n bs) (hn : n ≤ 1000) :
    Calls Try.prog 28 #[.slice (some ad) n c] w (BytRet w bs) := by
  obtain ⟨i0, hi0, hz0, hz1, hz2⟩ := info_parts byte_inf
  have T1 := Lib.hid hi0; have T2 := Lib.hid hz0; have T3 := Lib.hid hz1; have T4 := Lib.hid hz2
  have HB0 := Lib.hid (alloc_below w (.cells #[] 5))
  have HN := Lib.hid ((hb.below HB0.out).more HB0.out.size)
  have HL := Lib.hid hb.len
  have HO0 : Hid (Own .u8 5 (w.alloc (.cells #[] 5)) w.heap.size (.slice (some ⟨w.heap.size, 0, none⟩) 0 0) []) := Lib.hid (World.ownsRow_lit w #[] 0 (Nat.le_refl _) (Nat.zero_le _) rfl)
  clear hi0 hz0 hz1 hz2 hb
  have q : ∀ w', (binOp .eql 57 (.slice (some ad) n c) (.slice none 0 0)).run Try.prog w' = .ok (.bool false) w' := fun w' => Lib.run_eql_slice_nil w' _ _ (some ad) n c 0 0 Try.underlying57
  go_enter Try.func28, Try.ntmps28
  go_wp2_with (first
    | (at_builtin; (refine wpList_app _ rfl (.tmp 5) (.tmp 6) _ rfl 5 i0 _ 1 Try.underlying57 T1.out T2.out T3.out T4.out rfl w.heap.size _ [] rfl HO0.out _ (some ad) n c bs rfl HN.out (by simp only [maxLen, List.length_nil]; omega) (by simp only [List.length_nil]; omega) HB0.out.size ?_)
       intro v' w' O' hg'
       have Bn : Hid (Below w.heap.size w w') := Lib.hid (Below.grown HB0.out hg' HB0.out.size fun g hg => (HO0.out.blk g hg).1)
       have HO := Lib.hid O'
       clear hg' O'))
  go_ret
  obtain ⟨A, cap, ev, h1, h2, h3⟩ := HO.out.form
  have O := HO.out
  simp only [List.nil_append] at ev h1 h3 O
  subst ev
  rw [HL.out] at h1 O ⊢
  exact ⟨A, n, cap, rfl, HL.out, h1, h2, O, Bn.out⟩
set_option maxRecDepth 100000 in
theorem cbytes_any (s : Bool) (b : List Int) (w : World) (h : b.length = 16) : Calls Try.prog 19 #[.agg (adrV s b)] w (BytRet w (adrL s b)) := by
  have HR := Lib.hid (show (w.alloc (.cells (adrV s b) 25)).heap[w.heap.size]? = some (.cells (adrV s b) 25 (0, 0)) from heap_alloc_new w _)
  have HI := Lib.hid (adr_info s h)
  have HB := Lib.hid (alloc_below w (.cells (adrV s b) 25))
  have HN := Lib.hid (fun (w' : World) (hb : Below (w.alloc (.cells (adrV s b) 25)).heap.size (w.alloc (.cells (adrV s b) 25)) w') => (show Nums .u8 w' w'.heap.size (some ⟨w.heap.size, 1, none⟩) (adrN s) (adrL s b) by
    have hr : w'.heap[w.heap.size]? = some (.cells (adrV s b) 25 (0, 0)) := by rw [hb.block _ (lt_of_row HR.out)]; exact HR.out
    refine ⟨adrL_len h, fun _ => ⟨w.heap.size, 1, rfl, lt_of_row hr, fun i hi => ?_⟩⟩
    have := adrN_le s
    rw [cell_of_row w' w.heap.size (1 + i) _ _ (0, 0) hr, adrV_at (by omega)]
    unfold adrL
    rw [List.getD_eq_getElem?_getD, List.getD_eq_getElem?_getD, List.getElem?_take, if_pos hi]))
  have HS : Hid (∀ w', Calls Try.prog 29 #[.agg (adrV s b)] w' (Ret w' (.int .i64 (adrN s)))) := Lib.hid (fun w' => csize_any s b w' h _ rfl)
  generalize adrL s b = bs at *
  generalize adrV s b = C at *
  obtain ⟨W, hW⟩ : ∃ W, W = w.alloc (.cells C 25) := ⟨_, rfl⟩
  have HW := Lib.hid hW
  rw [← hW] at HR HB HN
  cases s with
  | false =>
    have HS4 : Hid (∀ w', Calls Try.prog 29 #[.agg C] w' (Ret w' (.int .i64 4))) := Lib.hid HS.out
    clear HS
    go_enter Try.func19, Try.ntmps19
    go_upto_region 1 with fail
    rw [← hW]
    clear hW
    go_wp2_with (first
      | (refine wpList_load_row rfl 25 (.tmp 1) rfl w.heap.size rfl _ _ _ _ HR.out Try.underlying25 rfl HI.out ?_)
      | (go_at_call 29; (with_reducible refine (HS4.out _).mono ?_); rintro e w2 ⟨rfl, B2⟩
         have NN := Lib.hid (HN.out w2 B2)
         have HB2 := Lib.hid (HB.out.trans (B2.mono HB.out.size))
         clear B2)
      | (go_at_call 28; (refine (clone_any _ _ _ bs _ NN.out (by decide)).mono ?_); rintro e w3 ⟨A, n, c, rfl, h1, h2, h3, O, B3⟩
         have HO := Lib.hid (O.less HB2.out.size)
         have HB3 := Lib.hid (HB2.out.trans (B3.mono HB2.out.size))
         have HH := Lib.hid (And.intro h1 (And.intro h2 h3))
         clear h1 h2 h3 O B3))
    go_ret
    exact ⟨A, n, c, rfl, HH.out.1, HH.out.2.1, HH.out.2.2, HO.out, HB3.out⟩
  | true =>
    have HS4 : Hid (∀ w', Calls Try.prog 29 #[.agg C] w' (Ret w' (.int .i64 16))) := Lib.hid HS.out
    clear HS
    go_enter Try.func19, Try.ntmps19
    go_upto_region 1 with fail
    rw [← hW]
    clear hW
    go_wp2_with (first
      | (refine wpList_load_row rfl 25 (.tmp 1) rfl w.heap.size rfl _ _ _ _ HR.out Try.underlying25 rfl HI.out ?_)
      | (go_at_call 29; (with_reducible refine (HS4.out _).mono ?_); rintro e w2 ⟨rfl, B2⟩
         have NN := Lib.hid (HN.out w2 B2)
         have HB2 := Lib.hid (HB.out.trans (B2.mono HB.out.size))
         clear B2)
      | (go_at_call 28; (refine (clone_any _ _ _ bs _ NN.out (by decide)).mono ?_); rintro e w3 ⟨A, n, c, rfl, h1, h2, h3, O, B3⟩
         have HO := Lib.hid (O.less HB2.out.size)
         have HB3 := Lib.hid (HB2.out.trans (B3.mono HB2.out.size))
         have HH := Lib.hid (And.intro h1 (And.intro h2 h3))
         clear h1 h2 h3 O B3))
    go_ret
    exact ⟨A, n, c, rfl, HH.out.1, HH.out.2.1, HH.out.2.2, HO.out, HB3.out⟩
end Go.Proofs.Ytjdenhkicikfkaa.adC
