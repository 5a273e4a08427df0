/-
  What the laws of draw ask of the program's functions; their walks.
-/
import Derived.Test.YtblgkojeholbnaaDrK
namespace Go.Proofs.Ytblgkojeholbnaa.ieC
open Go.ChangeShapes Go.WideShapes Go.ChangeAt Go.RowKit
open Go.Proofs.Ytblgkojeholbnaa.memC Go.Proofs.Ytblgkojeholbnaa.genC Go.Proofs.Ytblgkojeholbnaa.butC Go.Proofs.Ytblgkojeholbnaa.freeC
set_option linter.unusedVariables false
/-- two chances, mixed -/
def mixB (a b s : Nat) : Nat := (Ieee.double.add ((Ieee.double.mul (chanceB a) ((Ieee.double.sub 4607182418800017408 (chanceB s)).getD 0)).getD 0) ((Ieee.double.mul (chanceB b) (chanceB s)).getD 0)).getD 0
theorem mixB_le {a b s : Nat} (ha : a < 18446744073709551616) (hb : b < 18446744073709551616) (hs : s < 18446744073709551616) : mixB a b s ≤ 4607182418800017408 := by
  obtain ⟨t, x, y, z, h1, h2, h3, h4, -, -, -, h5⟩ := mix_le (chance_le ha) (chance_le hb) (chance_le hs)
  unfold mixB
  rw [h1, Option.getD_some, h2, Option.getD_some, h3, Option.getD_some, h4, Option.getD_some]
  exact h5
theorem rmix_is {a b s : Nat} (ha : a < 18446744073709551616) (hb : b < 18446744073709551616) (hs : s < 18446744073709551616) (w : World) :
    Calls Try.prog 21 #[.float .f64 a, .float .f64 b, .float .f64 s] w (Is w (.float .f64 (mixB a b s))) := by
  obtain ⟨t, x, y, z, h1, h2, h3, h4, -, h5⟩ := rmix_any ha hb hs w
  have e : mixB a b s = z := by
    unfold mixB
    rw [h1, Option.getD_some, h2, Option.getD_some, h3, Option.getD_some, h4, Option.getD_some]
  rw [e]
  exact h5
/-- the program's functions -/
structure FrD : Prop where
  chance : ∀ (x : Nat) (w : World), x < 18446744073709551616 → Calls Try.prog 11 #[.float .f64 x] w (RetB w (.float .f64 (chanceB x)))
  draw : ∀ (x : Nat) (w : World), x < 18446744073709551616 → Calls Try.prog 14 #[.float .f64 x] w (RetB w (.float .f64 (drawB x)))
  hit : ∀ (p d : Nat) (w : World), p < 18446744073709551616 → d < 18446744073709551616 → Calls Try.prog 18 #[.float .f64 p, .float .f64 d] w (RetB w (.bool (hitB p d)))
  pick : ∀ (d : Nat) (A : Option Addr) (n c : Nat) (ws : List Nat) (w : World), d < 18446744073709551616 → FlsE w w.heap.size A n ws → n ≤ 1000 → n ≤ c → c ≤ 9223372036854775807 → Calls Try.prog 22 #[.float .f64 d, .slice A n c] w (RetB w (.int .i64 (pickB d ws)))
  delay : ∀ (mean : Nat) (most : Int) (d : Nat) (w : World), mean < 18446744073709551616 → -9223372036854775808 ≤ most → most ≤ 4503599627370496 → d < 18446744073709551616 → Calls Try.prog 24 #[.float .f64 mean, .int .i64 most, .float .f64 d] w (RetB w (.int .i64 (delayB mean most d)))
  mix : ∀ (a b s : Nat) (w : World), a < 18446744073709551616 → b < 18446744073709551616 → s < 18446744073709551616 → Calls Try.prog 20 #[.float .f64 a, .float .f64 b, .float .f64 s] w (RetB w (.float .f64 (mixB a b s)))
  bits : ∀ (x : Nat) (w : World), x < 18446744073709551616 → Calls Try.prog 10 #[.float .f64 x] w (RetB w (.int .u64 (bitsB x)))
  same : ∀ (x y : Nat) (w : World), x < 18446744073709551616 → y < 18446744073709551616 → Calls Try.prog 16 #[.float .f64 x, .float .f64 y] w (RetB w (.bool (bitsB x == bitsB y)))
/-- the laws' sign that the program is there -/
def Alive : Prop := ∀ w : World, Calls Try.prog 17 #[] w (RetB w (.bool true))
/-! ### library -/
theorem from_call (x : Nat) (w : World) : (callFunc 35 #[.int .u64 (x : Nat)]).run Try.prog w = .ok (.value (.float .f64 x)) w := by
  have h := run_callFunc_extern (e := Extern.MathFloatBits.float64frombits) Try.func35 (by kernel_rfl) (by kernel_rfl) (by kernel_rfl) (by kernel_rfl) #[.int .u64 (x : Nat)] w
  rw [h]
  rfl
set_option maxRecDepth 100000 in
theorem inf_pos (w : World) : Calls Try.prog 26 #[.int .i64 1] w (Is w (.float .f64 9218868437227405312)) := by
  have hb : ∀ w' : World, (callFunc 35 #[.int .u64 9218868437227405312]).run Try.prog w' = .ok (.value (.float .f64 9218868437227405312)) w' := fun w' => from_call 9218868437227405312 w'
  go_enter Try.func26, Try.ntmps26
  go_wp2_with fail
  go_ret
  exact ⟨rfl, rfl⟩
set_option maxRecDepth 100000 in
theorem inf_neg (w : World) : Calls Try.prog 26 #[.int .i64 (-1)] w (Is w (.float .f64 18442240474082181120)) := by
  have hb : ∀ w' : World, (callFunc 35 #[.int .u64 18442240474082181120]).run Try.prog w' = .ok (.value (.float .f64 18442240474082181120)) w' := fun w' => from_call 18442240474082181120 w'
  go_enter Try.func26, Try.ntmps26
  go_wp2_with fail
  go_ret
  exact ⟨rfl, rfl⟩
set_option maxRecDepth 100000 in
theorem nan_any (w : World) : Calls Try.prog 30 #[] w (Is w (.float .f64 9221120237041090561)) := by
  have hb : ∀ w' : World, (callFunc 35 #[.int .u64 9221120237041090561]).run Try.prog w' = .ok (.value (.float .f64 9221120237041090561)) w' := fun w' => from_call 9221120237041090561 w'
  go_enter Try.func30, Try.ntmps30
  go_wp2_with fail
  go_ret
  exact ⟨rfl, rfl⟩
set_option maxRecDepth 100000 in
set_option maxHeartbeats 2000000 in
theorem stands_walk (F : FrD) (hal : Alive) {a b : Nat} (ha : a < 18446744073709551616) (hb : b < 18446744073709551616) (w : World) :
    Calls Try.prog 3 #[.float .f64 a, .float .f64 b] w (RetB w (.bool true)) := by
  have AL := Lib.hid hal
  have BB := Lib.hid (Below.refl w.heap.size w)
  have hc := chance_le ha
  have hd := draw_le ha
  have CH := Lib.hid (fun w' => F.chance a w' ha)
  have DR := Lib.hid (fun w' => F.draw a w' ha)
  have BC := Lib.hid (fun w' => F.bits (chanceB a) w' (by omega))
  have BD := Lib.hid (fun w' => F.bits (drawB a) w' (by omega))
  have BA := Lib.hid (fun w' => F.bits a w' ha)
  have SM := Lib.hid (fun w' => F.same a b w' ha hb)
  have rCH := Lib.hid (fun w' => rchance_any a w')
  have rDR := Lib.hid (fun w' => rdraw_any a w')
  have rBC := Lib.hid (fun w' => rbits_any (chanceB a) w')
  have rBD := Lib.hid (fun w' => rbits_any (drawB a) w')
  have rBA := Lib.hid (fun w' => rbits_any a w')
  have rBB := Lib.hid (fun w' => rbits_any b w')
  obtain ⟨V, hV⟩ : ∃ V, (bitsB a == bitsB b) = V := ⟨_, rfl⟩
  rw [hV] at SM
  clear F hal hc hd ha hb
  generalize bitsB (chanceB a) = X1 at *
  generalize bitsB (drawB a) = X2 at *
  generalize chanceB a = CA at *
  generalize drawB a = DA at *
  generalize bitsB a = X3 at *
  generalize bitsB b = X4 at *
  go_enter Try.func3, Try.ntmps3
  go_wp2_with (first
    | go_skip
    | (go_at_call 11; (first | with_reducible refine (CH.out _).mono ?_); rintro e w102 ⟨rfl, hb⟩
       have BB := Lib.hid (BB.out.trans (hb.mono BB.out.size))
       clear hb)
    | (go_at_call 14; (first | with_reducible refine (DR.out _).mono ?_); rintro e w103 ⟨rfl, hb⟩
       have BB := Lib.hid (BB.out.trans (hb.mono BB.out.size))
       clear hb)
    | (go_at_call 10; (first | with_reducible refine (BC.out _).mono ?_ | with_reducible refine (BD.out _).mono ?_ | with_reducible refine (BA.out _).mono ?_); rintro e w104 ⟨rfl, hb⟩
       have BB := Lib.hid (BB.out.trans (hb.mono BB.out.size))
       clear hb)
    | (go_at_call 16; (first | with_reducible refine (SM.out _).mono ?_); rintro e w105 ⟨rfl, hb⟩
       have BB := Lib.hid (BB.out.trans (hb.mono BB.out.size))
       clear hb)
    | (go_at_call 13; (first | with_reducible refine (rCH.out _).mono ?_); rintro e w106 ⟨rfl, hw⟩; obtain rfl := hw.symm)
    | (go_at_call 15; (first | with_reducible refine (rDR.out _).mono ?_); rintro e w107 ⟨rfl, hw⟩; obtain rfl := hw.symm)
    | (go_at_call 12; (first | with_reducible refine (rBC.out _).mono ?_ | with_reducible refine (rBD.out _).mono ?_ | with_reducible refine (rBA.out _).mono ?_ | with_reducible refine (rBB.out _).mono ?_); rintro e w108 ⟨rfl, hw⟩; obtain rfl := hw.symm)
    | (go_at_call 17; (first | refine (AL.out _).mono ?_); rintro e w101 ⟨rfl, hb⟩
       have BB := Lib.hid (BB.out.trans (hb.mono BB.out.size))
       clear hb))
  go_ret
  exact ⟨rfl, BB.out⟩
set_option maxRecDepth 100000 in
set_option maxHeartbeats 2000000 in
theorem hits_walk (F : FrD) (hal : Alive) {p q d : Nat} (hp : p < 18446744073709551616) (hq : q < 18446744073709551616) (hd : d < 18446744073709551616) (w : World) :
    Calls Try.prog 4 #[.float .f64 p, .float .f64 q, .float .f64 d] w (RetB w (.bool true)) := by
  have AL := Lib.hid hal
  have BB := Lib.hid (Below.refl w.heap.size w)
  have hm := mixB_le hp hq hd
  have HI := Lib.hid (fun w' => F.hit p d w' hp hd)
  have MX := Lib.hid (fun w' => F.mix p q d w' hp hq hd)
  have BM := Lib.hid (fun w' => F.bits (mixB p q d) w' (by omega))
  have rHI := Lib.hid (fun w' => rhit_any p d w')
  have rMX := Lib.hid (fun w' => rmix_is hp hq hd w')
  have rBM := Lib.hid (fun w' => rbits_any (mixB p q d) w')
  clear F hal hm hp hq hd
  generalize bitsB (mixB p q d) = X1 at *
  generalize mixB p q d = MM at *
  generalize hitB p d = HH at *
  go_enter Try.func4, Try.ntmps4
  go_wp2_with (first
    | go_skip
    | (go_at_call 18; (first | with_reducible refine (HI.out _).mono ?_); rintro e w109 ⟨rfl, hb⟩
       have BB := Lib.hid (BB.out.trans (hb.mono BB.out.size))
       clear hb)
    | (go_at_call 20; (first | with_reducible refine (MX.out _).mono ?_); rintro e w110 ⟨rfl, hb⟩
       have BB := Lib.hid (BB.out.trans (hb.mono BB.out.size))
       clear hb)
    | (go_at_call 10; (first | with_reducible refine (BM.out _).mono ?_); rintro e w111 ⟨rfl, hb⟩
       have BB := Lib.hid (BB.out.trans (hb.mono BB.out.size))
       clear hb)
    | (go_at_call 19; (first | with_reducible refine (rHI.out _).mono ?_); rintro e w112 ⟨rfl, hw⟩; obtain rfl := hw.symm)
    | (go_at_call 21; (first | with_reducible refine (rMX.out _).mono ?_); rintro e w113 ⟨rfl, hw⟩; obtain rfl := hw.symm)
    | (go_at_call 12; (first | with_reducible refine (rBM.out _).mono ?_); rintro e w114 ⟨rfl, hw⟩; obtain rfl := hw.symm)
    | (go_at_call 17; (first | refine (AL.out _).mono ?_); rintro e w101 ⟨rfl, hb⟩
       have BB := Lib.hid (BB.out.trans (hb.mono BB.out.size))
       clear hb))
  go_ret
  exact ⟨rfl, BB.out⟩
set_option maxRecDepth 100000 in
set_option maxHeartbeats 2000000 in
theorem picks_walk (F : FrD) (hal : Alive) {d : Nat} (hd : d < 18446744073709551616) (A : Option Addr) (n c : Nat) (ws : List Nat) (w : World) (h : FlsE w w.heap.size A n ws) (hnc : n ≤ c) (hcm : c ≤ 9223372036854775807) :
    Calls Try.prog 5 #[.float .f64 d, .slice A n c] w (RetB w (.bool true)) := by
  have AL := Lib.hid hal
  have BB := Lib.hid (Below.refl w.heap.size w)
  by_cases h3 : 300 < n
  · have q3 : (n : Int) > 300 := by omega
    clear F hal h hnc hcm h3 hd
    go_enter Try.func5, Try.ntmps5
    go_wp2_with (first
      | go_skip
      | (go_at_call 17; (first | refine (AL.out _).mono ?_); rintro e w101 ⟨rfl, hb⟩
         have BB := Lib.hid (BB.out.trans (hb.mono BB.out.size))
         clear hb))
    go_ret
    exact ⟨rfl, BB.out⟩
  have q3 : ¬ (n : Int) > 300 := by omega
  have PK := Lib.hid (fun w' (hb : Below w.heap.size w w') => F.pick d A n c ws w' hd (h.below hb hb.size) (by omega) hnc hcm)
  have rPK := Lib.hid (fun w' (hb : Below w.heap.size w w') => rpick_any hd A n c ws w' (h.below hb hb.size) (by omega))
  clear F hal h hnc hcm h3 hd
  generalize pickB d ws = X at *
  go_enter Try.func5, Try.ntmps5
  go_wp2_with (first
    | go_skip
    | (go_at_call 22; (first | with_reducible refine (PK.out _ BB.out).mono ?_); rintro e w115 ⟨rfl, hb⟩
       have BB := Lib.hid (BB.out.trans (hb.mono BB.out.size))
       clear hb)
    | (go_at_call 23; (first | with_reducible refine (rPK.out _ BB.out).mono ?_); rintro e w116 ⟨rfl, hb⟩
       have BB := Lib.hid (BB.out.trans (hb.mono BB.out.size))
       clear hb)
    | (go_at_call 17; (first | refine (AL.out _).mono ?_); rintro e w101 ⟨rfl, hb⟩
       have BB := Lib.hid (BB.out.trans (hb.mono BB.out.size))
       clear hb))
  go_ret
  exact ⟨rfl, BB.out⟩
set_option maxRecDepth 100000 in
set_option maxHeartbeats 2000000 in
theorem delays_walk (F : FrD) (hal : Alive) {mean d : Nat} {most : Int} (hm : mean < 18446744073709551616) (h0 : -9223372036854775808 ≤ most) (hd : d < 18446744073709551616) (w : World) :
    Calls Try.prog 6 #[.float .f64 mean, .int .i64 most, .float .f64 d] w (RetB w (.bool true)) := by
  have AL := Lib.hid hal
  have BB := Lib.hid (Below.refl w.heap.size w)
  by_cases h3 : 4503599627370496 < most
  · have q3 : most > 4503599627370496 := h3
    clear F hal hm hd h3 h0
    go_enter Try.func6, Try.ntmps6
    go_wp2_with (first
      | go_skip
      | (go_at_call 17; (first | refine (AL.out _).mono ?_); rintro e w101 ⟨rfl, hb⟩
         have BB := Lib.hid (BB.out.trans (hb.mono BB.out.size))
         clear hb))
    go_ret
    exact ⟨rfl, BB.out⟩
  have q3 : ¬ most > 4503599627370496 := h3
  have DL := Lib.hid (fun w' => F.delay mean most d w' hm h0 (by omega) hd)
  have rDL := Lib.hid (fun w' => rdelay_any (most := most) hm (by omega) hd w')
  clear F hal hm h3 hd h0
  generalize delayB mean most d = X at *
  go_enter Try.func6, Try.ntmps6
  go_wp2_with (first
    | go_skip
    | (go_at_call 24; (first | with_reducible refine (DL.out _).mono ?_); rintro e w117 ⟨rfl, hb⟩
       have BB := Lib.hid (BB.out.trans (hb.mono BB.out.size))
       clear hb)
    | (go_at_call 25; (first | with_reducible refine (rDL.out _).mono ?_); rintro e w118 ⟨rfl, hw⟩; obtain rfl := hw.symm)
    | (go_at_call 17; (first | refine (AL.out _).mono ?_); rintro e w101 ⟨rfl, hb⟩
       have BB := Lib.hid (BB.out.trans (hb.mono BB.out.size))
       clear hb))
  go_ret
  exact ⟨rfl, BB.out⟩
end Go.Proofs.Ytblgkojeholbnaa.ieC
