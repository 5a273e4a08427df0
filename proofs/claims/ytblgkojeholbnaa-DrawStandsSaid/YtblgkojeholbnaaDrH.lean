/-
  The walk of DrawPicked; the laws' sign that the program is there; floats as arguments.
-/
import Derived.Test.YtblgkojeholbnaaDrG
import Derived.OpenShut
import Derived.ChangeArms
import Derived.Deep.Slices
namespace Go.Proofs.Ytblgkojeholbnaa.ieC
open Go.ChangeShapes Go.WideShapes Go.ChangeAt Go.RowKit
open Go.Proofs.Ytblgkojeholbnaa.memC Go.Proofs.Ytblgkojeholbnaa.genC Go.Proofs.Ytblgkojeholbnaa.butC Go.Proofs.Ytblgkojeholbnaa.freeC
set_option linter.unusedVariables false
theorem weight_pos {w : Nat} (hw : w < 18446744073709551616) : 0 < weightB w ↔ (Ieee.double.order w 0 == some .gt) = true := by
  unfold weightB
  constructor
  · intro h
    split at h
    · assumption
    · omega
  · intro h
    rw [if_pos h]
    have := order_gt0 hw (by simpa using h)
    split
    · unfold GREAT; omega
    · omega
theorem lastF_spec : ∀ (l : List Nat) (i : Nat) (a : Int), (lastF l i a = a ∧ ∀ w ∈ l, weightB w = 0) ∨ ∃ j x, l[j]? = some x ∧ lastF l i a = ((i + j : Nat) : Int) ∧ 0 < weightB x
  | [], i, a => .inl ⟨rfl, by simp⟩
  | w :: r, i, a => by
    unfold lastF
    rcases lastF_spec r (i + 1) (if 0 < weightB w then (i : Int) else a) with ⟨h1, h2⟩ | ⟨j, x, h1, h2, h3⟩
    · by_cases hw : 0 < weightB w
      · exact .inr ⟨0, w, rfl, by rw [h1, if_pos hw]; simp, hw⟩
      · refine .inl ⟨by rw [h1, if_neg hw], fun y hy => ?_⟩
        rcases List.mem_cons.1 hy with rfl | hy
        · omega
        · exact h2 y hy
    · exact .inr ⟨j + 1, x, by simpa using h1, by rw [h2]; congr 1; omega, h3⟩
theorem pickQ_spec {Q : Nat → Bool} : ∀ (l : List Nat) (a i j : Nat), (∀ w ∈ l, w < 18446744073709551616) → a ≤ 9218868437227405312 → Q a = false → pickQ Q a l i = some j → ∃ k x, l[k]? = some x ∧ j = i + k ∧ 0 < weightB x
  | [], a, i, j, _, _, _, h => by cases h
  | w :: r, a, i, j, hw, ha, hq, h => by
    obtain ⟨p1, p2, p3, p4⟩ := plus_all ha (weight_lt (hw w (by simp)))
    rw [pickQ_cons] at h
    by_cases hc : Q (plus a (weightB w)) = true
    · rw [if_pos hc] at h
      injection h with h
      refine ⟨0, w, rfl, by omega, ?_⟩
      rcases Nat.eq_zero_or_pos (weightB w) with h0 | h0
      · rw [p4 h0, hq] at hc; cases hc
      · exact h0
    · rw [if_neg hc] at h
      obtain ⟨k, x, h1, h2, h3⟩ := pickQ_spec r _ (i + 1) j (fun y hy => hw y (by simp [hy])) p2 (by simpa using hc) h
      exact ⟨k + 1, x, by simpa using h1, by omega, h3⟩
/-- nothing is picked where there is no weight; what is picked has one -/
theorem pick_spec (d : Nat) {ws : List Nat} (hw : ∀ w ∈ ws, w < 18446744073709551616) : (pickB d ws = -1 ∧ ∀ w ∈ ws, weightB w = 0) ∨ ∃ (i x : Nat), ws[i]? = some x ∧ pickB d ws = (i : Int) ∧ 0 < weightB x := by
  rcases lastF_spec ws 0 (-1) with ⟨h1, h2⟩ | ⟨j, x, h1, h2, h3⟩
  · exact .inl ⟨by unfold pickB lastB; rw [h1]; rfl, h2⟩
  · rw [Nat.zero_add] at h2
    have hl : ¬ lastB ws < 0 := by unfold lastB; omega
    unfold pickB
    rw [if_neg hl]
    cases hp : pickQ (belowB (Ieee.double.mul (drawB d) (sumB ws))) 0 ws 0 with
    | none => exact .inr ⟨j, x, h1, h2, h3⟩
    | some k =>
      have hq : belowB (Ieee.double.mul (drawB d) (sumB ws)) 0 = false := by
        unfold belowB
        split
        · exact decide_eq_false (by omega)
        · rfl
      obtain ⟨k', x', g1, g2, g3⟩ := pickQ_spec ws 0 0 k hw (by omega) hq hp
      rw [Nat.zero_add] at g2
      subst g2
      exact .inr ⟨k, x', g1, rfl, g3⟩
set_option maxRecDepth 100000 in
set_option maxHeartbeats 2000000 in
theorem picked_walk (F : FrD) (hal : Alive) {d : Nat} (hd : d < 18446744073709551616) (A : Option Addr) (n c : Nat) (ws : List Nat) (w : World) (h : FlsE w w.heap.size A n ws) (hnc : n ≤ c) (hcm : c ≤ 9223372036854775807) :
    Calls Try.prog 8 #[.float .f64 d, .slice A n c] w (RetB w (.bool true)) := by
  have AL := Lib.hid hal
  by_cases h3 : 300 < n
  · have q3 : (n : Int) > 300 := by omega
    have BB := Lib.hid (Below.refl w.heap.size w)
    clear F hal h hnc hcm h3 hd
    go_enter Try.func8, Try.ntmps8
    go_wp2_with (first
      | go_skip
      | (go_at_call 17; (first | refine (AL.out _).mono ?_); rintro e w102 ⟨rfl, hb⟩
         have BB := Lib.hid (BB.out.trans (hb.mono BB.out.size))
         clear hb))
    go_ret
    exact ⟨rfl, BB.out⟩
  have q3 : ¬ (n : Int) > 300 := by omega
  have PK := Lib.hid (fun w' (hb : Below w.heap.size w w') => F.pick d A n c ws w' hd (h.below hb hb.size) (by omega) hnc hcm)
  have PS := Lib.hid (pick_spec d h.ok)
  have HW := Lib.hid h
  have HN := Lib.hid (show n ≤ 300 by omega)
  generalize pickB d ws = N at *
  clear F hal h hnc hcm h3 hd
  go_enter Try.func8, Try.ntmps8
  go_upto_region 5 with fail
  clear q3
  go_loopw [5, 15] (fun u v wr => ∃ i : Nat, i ≤ n ∧ u = .bool ((ws.take i).any fun x => Ieee.double.order x 0 == some .gt) ∧ v = .int .i64 i ∧ wr = w) (fun u v _ => n - (intOf v).toNat)
  case atStart => exact ⟨0, by omega, rfl, rfl, rfl⟩
  case round =>
    obtain ⟨i, hi, rfl, rfl, rfl⟩ := hrel
    have BB := Lib.hid (Below.refl wr.heap.size wr)
    by_cases hlt : i < n
    · have q6 : (i : Int) < (n : Int) := by omega
      have wi : IntKind.i64.wrap ((i : Int) + 1) = (i : Int) + 1 := IntWalk.i64_in _ (by have := HN.out; omega)
      obtain ⟨x, hx⟩ : ∃ x, ws[i]? = some x := ⟨_, List.getElem?_eq_getElem (by rw [HW.out.len]; exact hlt)⟩
      obtain ⟨b1, o1, hA1, hb1, c1⟩ := HW.out.at_ (by omega)
      have c0 : wr.cell? ⟨b1, o1 + i, none⟩ = some (.float .f64 x) := c1 i x hx
      have HS := Lib.hid (show ((ws.take (i + 1)).any fun x => Ieee.double.order x 0 == some .gt) = (((ws.take i).any fun x => Ieee.double.order x 0 == some .gt) || (Ieee.double.order x 0 == some .gt)) by rw [take_snoc hx, List.any_append]; simp)
      obtain ⟨g, hg⟩ : ∃ g, (FloatKind.f64.format.order x 0 == some .gt) = g := ⟨_, rfl⟩
      rw [show (Ieee.double.order x 0 == some .gt) = g from hg] at HS
      have HI := Lib.hid hlt
      subst hA1
      generalize ((ws.take i).any fun x => Ieee.double.order x 0 == some .gt) = sm at *
      cases sm
      · clear hi hlt hx hb1 c1
        go_wp2_with go_skip
        go_roundw
        case rel => exact ⟨i + 1, HI.out, by rw [HS.out, Bool.false_or], by simp, by first | rfl | trivial⟩
        case measure => have := HI.out; simp [intOf]; omega
      · clear hi hlt hx hb1 c1 hg
        go_wp2_with go_skip
        go_roundw
        case rel => exact ⟨i + 1, HI.out, by rw [HS.out, Bool.true_or], by simp, by first | rfl | trivial⟩
        case measure => have := HI.out; simp [intOf]; omega
    have ei : n = i := by omega
    subst ei
    have q6 : ¬ (n : Int) < (n : Int) := by omega
    rw [show ws.take n = ws from List.take_of_length_le (by rw [HW.out.len]; exact Nat.le_refl _)]
    clear hi hlt
    rcases PS.out with ⟨hN, hz⟩ | ⟨i, x, hx, hN, hp⟩
    · have hs : (ws.any fun x => Ieee.double.order x 0 == some .gt) = false := by
        rw [List.any_eq_false]
        intro y hy hg
        have h1 := (weight_pos (HW.out.ok y hy)).2 hg
        have h2 := hz y hy
        omega
      rw [hs]
      subst hN
      clear hz hs
      go_wp2_with (first
        | go_skip
        | (go_at_call 22; (first | with_reducible refine (PK.out _ BB.out).mono ?_); rintro e w103 ⟨rfl, hb⟩
           have BB := Lib.hid (BB.out.trans (hb.mono BB.out.size))
           clear hb)
        | (go_at_call 17; (first | refine (AL.out _).mono ?_); rintro e w102 ⟨rfl, hb⟩
           have BB := Lib.hid (BB.out.trans (hb.mono BB.out.size))
           clear hb))
      go_ret
      exact ⟨rfl, BB.out⟩
    · subst hN
      have hlt := (List.getElem?_eq_some_iff.1 hx).1
      rw [HW.out.len] at hlt
      obtain ⟨b1, o1, hA1, hb1, c1⟩ := HW.out.at_ (by omega)
      have CX := Lib.hid (fun (w' : World) (hb : Below wr.heap.size wr w') => (show w'.cell? ⟨b1, o1 + i, none⟩ = some (.float .f64 x) from (hb.cell (p := ⟨b1, o1 + i, none⟩) hb1).trans (c1 i x hx)))
      have qx : (FloatKind.f64.format.order x 0 == some .gt) = true := (weight_pos (HW.out.ok x (List.mem_of_getElem? hx))).1 hp
      have q7 : ¬ (i : Int) < 0 := by omega
      have q8 : ¬ (i : Int) ≥ (n : Int) := by omega
      have q9 : (i : Int) < (n : Int) := by omega
      generalize (ws.any fun x => Ieee.double.order x 0 == some .gt) = sm at *
      subst hA1
      clear hx hp hlt hb1 c1
      go_upto_region 10 with (first
        | go_skip
        | (go_at_call 22; (first | with_reducible refine (PK.out _ BB.out).mono ?_); rintro e w103 ⟨rfl, hb⟩
           have BB := Lib.hid (BB.out.trans (hb.mono BB.out.size))
           clear hb))
      have c0 := CX.out _ BB.out
      go_wp2_with (first
        | go_skip
        | (go_at_call 17; (first | refine (AL.out _).mono ?_); rintro e w102 ⟨rfl, hb⟩
           have BB := Lib.hid (BB.out.trans (hb.mono BB.out.size))
           clear hb))
      go_ret
      exact ⟨rfl, BB.out⟩
/-! ### alive -/
theorem bits_lit {x : Nat} {n : Int} (h : n = (x : Int)) (w : World) : (callFunc 28 #[.float .f64 x]).run Try.prog w = .ok (.value (.int .u64 n)) w := by rw [h]; exact bits_call x w
theorem copysign_neg (w : World) : Calls Try.prog 31 #[.float .f64 0, .float .f64 13830554455654793216] w (Is w (.float .f64 9223372036854775808)) := by
  have h1 : ∀ w' : World, (callFunc 28 #[.float .f64 0]).run Try.prog w' = .ok (.value (.int .u64 0)) w' := fun w' => bits_lit rfl w'
  have h2 : ∀ w' : World, (callFunc 28 #[.float .f64 13830554455654793216]).run Try.prog w' = .ok (.value (.int .u64 13830554455654793216)) w' := fun w' => bits_lit rfl w'
  have h3 : ∀ w' : World, (callFunc 35 #[.int .u64 9223372036854775808]).run Try.prog w' = .ok (.value (.float .f64 9223372036854775808)) w' := fun w' => from_call 9223372036854775808 w'
  have b1 : bits .andNot .u64 0 9223372036854775808 = 0 := by decide +kernel
  have b2 : bits .and .u64 13830554455654793216 9223372036854775808 = 9223372036854775808 := by decide +kernel
  have b3 : bits .or .u64 0 9223372036854775808 = 9223372036854775808 := by decide +kernel
  go_enter Try.func31, Try.ntmps31
  go_wp2_with fail
  go_ret
  exact ⟨rfl, rfl⟩
theorem a_hit : hitB 9221120237041090561 0 = false := by decide +kernel
theorem a_pick : pickB 4602678819172646912 [0, 4607182418800017408, 4607182418800017408] = 2 := by decide +kernel
theorem a_delay : delayB 4611686018427387904 10 0 = 1 := by decide +kernel
theorem a_chance : chanceB 9223372036854775808 = 0 := by decide +kernel
set_option maxRecDepth 100000 in
set_option maxHeartbeats 2000000 in
theorem alive_any (F : FrD) : Alive := by
  intro w
  have BB := Lib.hid (Below.refl w.heap.size w)
  have PI := Lib.hid inf_pos
  have NN := Lib.hid nan_any
  have CS := Lib.hid copysign_neg
  have H1 := Lib.hid (fun w' => F.hit 4607182418800017408 9218868437227405312 w' (by omega) (by omega))
  have H2 := Lib.hid (fun w' => F.hit 9221120237041090561 0 w' (by omega) (by omega))
  have DL := Lib.hid (fun w' => F.delay 4611686018427387904 10 0 w' (by omega) (by omega) (by omega) (by omega))
  have CH := Lib.hid (fun w' => F.chance 9223372036854775808 w' (by omega))
  have SM := Lib.hid (fun w' => F.same 0 0 w' (by omega) (by omega))
  rw [hit_one (by omega)] at H1
  rw [a_hit] at H2
  rw [a_delay] at DL
  rw [a_chance] at CH
  rw [show (bitsB 0 == bitsB 0) = true from beq_self_eq_true _] at SM
  have PK := Lib.hid (fun (wx : World) => (show Calls Try.prog 22 #[.float .f64 4602678819172646912, .slice (some ⟨wx.heap.size, 0, none⟩) 3 3] (wx.alloc (.cells #[.float .f64 0, .float .f64 4607182418800017408, .float .f64 4607182418800017408] 22)) (fun e w2 => e = .returned (.int .i64 2) ∧ Below wx.heap.size wx w2) by
    have hR := heap_alloc_new wx (.cells #[.float .f64 0, .float .f64 4607182418800017408, .float .f64 4607182418800017408] 22)
    have hB := alloc_below wx (.cells #[.float .f64 0, .float .f64 4607182418800017408, .float .f64 4607182418800017408] 22)
    have h1 := F.pick 4602678819172646912 (some ⟨wx.heap.size, 0, none⟩) 3 3 [0, 4607182418800017408, 4607182418800017408] (wx.alloc (.cells #[.float .f64 0, .float .f64 4607182418800017408, .float .f64 4607182418800017408] 22)) (by omega) ⟨rfl, fun _ => ⟨wx.heap.size, 0, rfl, (Array.getElem?_eq_some_iff.1 hR).1, fun i x hi => by
      rw [cell_of_row _ wx.heap.size (0 + i) _ _ (0, 0) hR, Nat.zero_add]
      match i, hi with
      | 0, hi => simp at hi; subst hi; rfl
      | 1, hi => simp at hi; subst hi; rfl
      | 2, hi => simp at hi; subst hi; rfl⟩, fun x hx => by simp at hx; omega⟩ (by omega) (by omega) (by omega)
    rw [a_pick] at h1
    refine h1.mono ?_
    rintro e w2 ⟨rfl, hb⟩
    exact ⟨rfl, hB.trans (hb.mono hB.size)⟩))
  clear F
  go_enter Try.func17, Try.ntmps17
  go_wp2_with (first
    | go_skip
    | (go_at_call 26; (first | with_reducible refine (PI.out _).mono ?_); rintro e w104 ⟨rfl, hw⟩; obtain rfl := hw.symm)
    | (go_at_call 30; (first | with_reducible refine (NN.out _).mono ?_); rintro e w105 ⟨rfl, hw⟩; obtain rfl := hw.symm)
    | (go_at_call 31; (first | with_reducible refine (CS.out _).mono ?_); rintro e w106 ⟨rfl, hw⟩; obtain rfl := hw.symm)
    | (go_at_call 18; (first | with_reducible refine (H1.out _).mono ?_ | with_reducible refine (H2.out _).mono ?_); rintro e w107 ⟨rfl, hb⟩
       have BB := Lib.hid (BB.out.trans (hb.mono BB.out.size))
       clear hb)
    | (go_at_call 22; (first | with_reducible refine (PK.out _).mono ?_); rintro e w108 ⟨rfl, hb⟩
       have BB := Lib.hid (BB.out.trans (hb.mono BB.out.size))
       clear hb)
    | (go_at_call 24; (first | with_reducible refine (DL.out _).mono ?_); rintro e w109 ⟨rfl, hb⟩
       have BB := Lib.hid (BB.out.trans (hb.mono BB.out.size))
       clear hb)
    | (go_at_call 11; (first | with_reducible refine (CH.out _).mono ?_); rintro e w110 ⟨rfl, hb⟩
       have BB := Lib.hid (BB.out.trans (hb.mono BB.out.size))
       clear hb)
    | (go_at_call 16; (first | with_reducible refine (SM.out _).mono ?_); rintro e w111 ⟨rfl, hb⟩
       have BB := Lib.hid (BB.out.trans (hb.mono BB.out.size))
       clear hb))
  go_ret
  exact ⟨rfl, BB.out⟩
/-! ### arguments -/
section
variable {H : Type} {enc : TypeId × Value → H} {w : World} {base : Nat} {spare : Nat → Bool} {held : Bool} {r : Reach} {b0 : Nat} {v : Value} {d : DataW H} {ps : List MemPlace}
theorem open_f64 (hval : Value.okWide Try.prog w r b0 22 v) (hd : DataW.Trod enc Try.prog w base spare held 22 v d ps) : ∃ b, v = .float .f64 b ∧ b < 18446744073709551616 := by
  obtain ⟨b, h1, -, -, h2⟩ := open_float Try.underlying22 hval hd
  refine ⟨b, h1, ?_⟩
  have : (decide (b < 2 ^ 64)) = true := h2
  simpa using this
end
end Go.Proofs.Ytblgkojeholbnaa.ieC
