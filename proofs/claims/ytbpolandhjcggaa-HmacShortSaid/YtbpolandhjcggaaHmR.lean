/-
  The walk of the fourth statement.
-/
import Derived.Test.YtbpolandhjcggaaHmO
namespace Go.Proofs.Ytbpolandhjcggaa.hmC
open Go.ChangeShapes Go.WideShapes Go.ChangeAt Go.RowKit
open Go.Proofs.Ytbpolandhjcggaa.memC Go.Proofs.Ytbpolandhjcggaa.genC Go.Proofs.Ytbpolandhjcggaa.shaM Go.Proofs.Ytbpolandhjcggaa.shaC Go.Proofs.Ytbpolandhjcggaa.shaN Go.Proofs.Ytbpolandhjcggaa.butC Go.Proofs.Ytbpolandhjcggaa.hmM Go.Proofs.Ytbpolandhjcggaa.freeC Go.Proofs.Ytbpolandhjcggaa.partsC
set_option linter.unusedVariables false
theorem hmacshort_long (A : Option Addr) (n c : Nat) (A2 : Option Addr) (n2 c2 : Nat) (w : World) (hn : n ≤ 9223372036854775807) (hn2 : n2 ≤ 9223372036854775807) (h : 1000 < n ∨ 1000 < n2) : Calls Try.prog 6 #[.slice A n c, .slice A2 n2 c2] w (AliveRet w) := by
  by_cases h1 : 1000 < n
  · have d1 : decide (1000 < n) = true := by simpa using h1
    clear h h1
    go_enter Try.func6, Try.ntmps6
    go_wp2_with (first
      | (go_at_call 7; (with_reducible refine (long_any A _ _ _ hn).mono ?_); rintro e w' ⟨rfl, rfl⟩)
      | (go_at_call 8; refine (alive_any _).mono ?_; rintro e w' ⟨rfl, B⟩))
    go_ret
    exact ⟨rfl, B⟩
  · have d1 : decide (1000 < n) = false := by simpa using h1
    have d2 : decide (1000 < n2) = true := by simp; omega
    clear h h1
    go_enter Try.func6, Try.ntmps6
    go_wp2_with (first
      | (go_at_call 7; (with_reducible refine (long_any A n c _ hn).mono ?_); rintro e w' ⟨rfl, rfl⟩)
      | (go_at_call 7; (with_reducible refine (long_any A2 n2 c2 _ hn2).mono ?_); rintro e w' ⟨rfl, rfl⟩)
      | (go_at_call 8; refine (alive_any _).mono ?_; rintro e w' ⟨rfl, B⟩))
    go_ret
    exact ⟨rfl, B⟩
/-- the two arrays stand -/
def Two (w0 : World) (g5 g6 : Nat) (d s : List Int) (w : World) : Prop := Arr .u8 28 w g6 s ∧ Arr .u8 25 w g5 d ∧ Below w0.heap.size w0 w
theorem Two.below {w0 w w' : World} {g5 g6 : Nat} {d s : List Int} (h : Two w0 g5 g6 d s w) (B : Below w.heap.size w w') : Two w0 g5 g6 d s w' := ⟨h.1.below B h.1.lt, h.2.1.below B h.2.1.lt, h.2.2.trans (B.mono h.2.2.size)⟩
theorem Two.drew {w0 w : World} {g5 g6 : Nat} {d s : List Int} (h : Two w0 g5 g6 d s w) : Two w0 g5 g6 d s w.drew := ⟨h.1.heap rfl, h.2.1.heap rfl, h.2.2.drew⟩
def SV (g5 g6 : Nat) (S : ByteArray) : Nat → Value → World → Prop
  | 0, v, _ => v = .slice (some ⟨g6, 0, none⟩) 12 12
  | 1, v, _ => v = .string S
  | 2, v, _ => v = .slice (some ⟨g5, 0, none⟩) 12 20
  | 3, v, _ => v = .string S
  | 4, v, _ => v = .bool true
  | 5, v, _ => v = .bool true
  | 6, v, _ => v = .bool true
  | 7, v, _ => v = .bool true
  | 8, v, _ => v = .bool true
  | _, _, _ => True
theorem SV.keep (g5 g6 : Nat) (S : ByteArray) (i : Nat) (v : Value) (w w' : World) (hb : Below w.heap.size w w') (h : SV g5 g6 S i v w) : SV g5 g6 S i v w' := by
  unfold SV at h ⊢
  split at h <;> exact h
def tabS : List (Option Nat) := [none, none, none, none, some 8, none, none, none, none, none, none, none, none, none, none, none, none, none, none, none, none, none, some 0, some 1, some 2, some 3, some 4, some 5, some 6, some 7]
set_option maxRecDepth 100000 in
set_option maxHeartbeats 1000000 in
theorem hmacshort_short (A : Option Addr) (n c : Nat) (k : List Int) (A2 : Option Addr) (n2 c2 : Nat) (msg : List Int) (w : World) (hk : Key w A n c k) (hm : Key w A2 n2 c2 msg) (h : n ≤ 1000) (h2 : n2 ≤ 1000) :
    Calls Try.prog 6 #[.slice A n c, .slice A2 n2 c2] w (AliveRet w) := by
  have d1 : decide (1000 < n) = false := by simpa using h
  have d2 : decide (1000 < n2) = false := by simpa using h2
  obtain ⟨X, hX⟩ : ∃ X, X = vecA (macL k msg) := ⟨_, rfl⟩
  obtain ⟨Y, hY⟩ : ∃ Y, Y = vecA (shortL k msg) := ⟨_, rfl⟩
  have O1 := Lib.hid (fun (w' : World) (B : Below w.heap.size w w') => (mac1 (hk.below B) (hm.below B) (by omega) (by omega)).mono fun e w'' h => (show e = .returned (.agg X) ∧ Below w.heap.size w w'' from ⟨by rw [hX]; exact h.1, B.trans (h.2.mono B.size)⟩))
  have S1 := Lib.hid (fun (w' : World) (B : Below w.heap.size w w') => (short1 (hk.below B) (hm.below B) (by omega) (by omega)).mono fun e w'' h => (show e = .returned (.agg Y) ∧ Below w.heap.size w w'' from ⟨by rw [hY]; exact h.1, B.trans (h.2.mono B.size)⟩))
  obtain ⟨Z, hZ⟩ : ∃ Z, Z = ((nz 20).map (Value.int .u8)).toArray := ⟨_, rfl⟩
  have hzv := z20
  rw [← hZ] at hzv
  obtain ⟨Z2, hZ2⟩ : ∃ Z, Z = ((nz 12).map (Value.int .u8)).toArray := ⟨_, rfl⟩
  have hzv2 := z12
  rw [← hZ2] at hzv2
  have UX := Lib.hid (show (Try.prog.info? 25).map (·.size) = some X.size by rw [digest_info, hX]; simp [vecA, mac_len])
  have ZX := Lib.hid (show Z.size = X.size by rw [hZ, hX]; simp [nz, vecA, mac_len])
  have OX := Lib.hid (show X.all (·.oneCell') = true by rw [hX]; exact nums_one _)
  have UY := Lib.hid (show (Try.prog.info? 28).map (·.size) = some Y.size by rw [b12_info, hY]; simp [vecA, short_len])
  have ZY := Lib.hid (show Z2.size = Y.size by rw [hZ2, hY]; simp [nz, vecA, short_len])
  have OY := Lib.hid (show Y.all (·.oneCell') = true by rw [hY]; exact nums_one _)
  have HX := Lib.hid hX
  have HY := Lib.hid hY
  have hn : n ≤ 9223372036854775807 := by omega
  have hn2 : n2 ≤ 9223372036854775807 := by omega
  have BB := Below.refl w.heap.size w
  clear hk hm h h2 hX hY hZ hZ2
  go_enter Try.func6, Try.ntmps6
  go_upto_region 3 with (first
    | (go_at_call 7; (with_reducible refine (long_any A n c _ hn).mono ?_); rintro e w' ⟨rfl, rfl⟩)
    | (go_at_call 7; (with_reducible refine (long_any A2 n2 c2 _ hn2).mono ?_); rintro e w' ⟨rfl, rfl⟩))
  go_upto_region 4 with (first
    | (go_at_call 9; (with_reducible refine (O1.out _ BB).mono ?_); rintro e w' ⟨rfl, BB⟩)
    | (go_at_call 11; (with_reducible refine (S1.out _ BB).mono ?_); rintro e w1 ⟨rfl, BB⟩
       have r5 := Lib.hid (((alloc_below (w1.alloc (.cells Z 25)) (.cells Z2 28)).block w1.heap.size (by rw [alloc_size]; exact Nat.lt_succ_self _)).trans (heap_alloc_new w1 (.cells Z 25)))
       have r6 := Lib.hid (show ((w1.alloc (.cells Z 25)).alloc (.cells Z2 28)).heap[w1.heap.size + 1]? = some (.cells Z2 28 (0, 0)) by rw [← alloc_size w1 (.cells Z 25)]; exact heap_alloc_new _ _))
    | (refine wpList_store_row rfl 25 (.tmp 5) (.tmp 17) rfl w1.heap.size X rfl rfl _ _ r5.out UX.out ZX.out OX.out ?_
       have r6' := Lib.hid ((setRow_other ((w1.alloc (.cells Z 25)).alloc (.cells Z2 28)) w1.heap.size (w1.heap.size + 1) X (by omega)).trans r6.out))
    | (refine wpList_store_row rfl 28 (.tmp 6) (.tmp 21) rfl (w1.heap.size + 1) Y rfl rfl _ _ r6'.out UY.out ZY.out OY.out ?_))
  have HT : Two w w1.heap.size (w1.heap.size + 1) (macL k msg) (shortL k msg) ((((w1.alloc (.cells Z 25)).alloc (.cells Z2 28)).setRow w1.heap.size X).setRow (w1.heap.size + 1) Y) := by
    have s5 := setRow_heap _ _ _ X _ _ r5.out
    have s6 := setRow_heap _ _ _ Y _ _ r6'.out
    refine ⟨⟨by rw [s6, HY.out]; rfl⟩, ⟨by rw [setRow_other _ _ _ _ (by omega), s5, HX.out]; rfl⟩, ?_⟩
    have h1 := (BB.alloc BB.size (.cells Z 25)).alloc (BB.alloc BB.size (.cells Z 25)).size (.cells Z2 28)
    have h2 := BB.size
    exact below_setRow (below_setRow h1 h2 _) (Nat.le_succ_of_le h2) _
  generalize (((w1.alloc (.cells Z 25)).alloc (.cells Z2 28)).setRow w1.heap.size X).setRow (w1.heap.size + 1) Y = w2 at *
  generalize hg6 : w1.heap.size + 1 = g6 at *
  generalize w1.heap.size = g5 at *
  obtain ⟨S, hS⟩ : ∃ S, S = strOfNums (shortL k msg) := ⟨_, rfl⟩
  have HTT := Lib.hid HT
  clear HT hzv hzv2 BB d1 d2
  refine with_act fun a0 ha0 => ?_
  have hl : tabS.length = a0.tmps.size := by rw [ha0]; rfl
  have k5 : a0.tmps[5]?.getD undef = .pointer (some ⟨g5, 0, none⟩) := by rw [ha0]; rfl
  have k6 : a0.tmps[6]?.getD undef = .pointer (some ⟨g6, 0, none⟩) := by rw [ha0]; rfl
  refine wp_region_vals (by kernel_rfl) tabS (by kernel_rfl) (by kernel_rfl) hl (fun i => if i = 8 then .bool false else undef) (by rw [ha0]; rfl) (Two w g5 g6 (macL k msg) (shortL k msg)) (SV g5 g6 S) HTT.out.drew (SV.keep g5 g6 S) ⟨?_, ?_, ?_, ?_, ?_, ?_, ?_, ?_, ?_, trivial⟩ ?_
  · refine step_plain [] (by kernel_rfl) rfl fun us w' hG hV => ?_
    have o6 := (frame_old2 (us := us) (a := a0) (show (tabS[6]?).join = none from rfl)).trans k6
    generalize frame tabS a0 us = fr at *
    exact val_ok (v := .slice (some ⟨g6, 0, none⟩) 12 12) (w' := w') (by go_simp) hG (Below.refl _ _) rfl
  · refine step_plain [0] (by kernel_rfl) rfl fun us w' hG hV => ?_
    have e0 : us 0 = .slice (some ⟨g6, 0, none⟩) 12 12 := hV 0 (by simp)
    have v0 := (frame_at2 (us := us) hl (show (tabS[22]?).join = some 0 from rfl)).trans e0
    have hc := run_string (hG.1.part (n := 12) (short_len k msg)) 12 22 5 9 Try.underlying22 Try.underlying5 Try.underlying9
    rw [← hS] at hc
    generalize frame tabS a0 us = fr at *
    exact val_ok (v := .string S) (w' := w') (by go_simp) hG (Below.refl _ _) rfl
  · refine step_plain [] (by kernel_rfl) rfl fun us w' hG hV => ?_
    have o5 := (frame_old2 (us := us) (a := a0) (show (tabS[5]?).join = none from rfl)).trans k5
    generalize frame tabS a0 us = fr at *
    exact val_ok (v := .slice (some ⟨g5, 0, none⟩) 12 20) (w' := w') (by go_simp) hG (Below.refl _ _) rfl
  · refine step_plain [2] (by kernel_rfl) rfl fun us w' hG hV => ?_
    have e2 : us 2 = .slice (some ⟨g5, 0, none⟩) 12 20 := hV 2 (by simp)
    have v2 := (frame_at2 (us := us) hl (show (tabS[24]?).join = some 2 from rfl)).trans e2
    have hc := run_string ((hG.2.1.part (n := 20) (mac_len k msg)).upto (show 12 ≤ 20 by decide)) 20 22 5 9 Try.underlying22 Try.underlying5 Try.underlying9
    rw [show (macL k msg).take 12 = shortL k msg from rfl, ← hS] at hc
    generalize frame tabS a0 us = fr at *
    exact val_ok (v := .string S) (w' := w') (by go_simp) hG (Below.refl _ _) rfl
  · refine step_plain [1, 3] (by kernel_rfl) rfl fun us w' hG hV => ?_
    have e1 : us 1 = .string S := hV 1 (by simp)
    have v1 := (frame_at2 (us := us) hl (show (tabS[23]?).join = some 1 from rfl)).trans e1
    have e3 : us 3 = .string S := hV 3 (by simp)
    have v3 := (frame_at2 (us := us) hl (show (tabS[25]?).join = some 3 from rfl)).trans e3
    generalize frame tabS a0 us = fr at *
    exact val_ok (v := .bool true) (w' := w') (by go_simp) hG (Below.refl _ _) rfl
  · refine step_plain [4] (by kernel_rfl) rfl fun us w' hG hV => ?_
    have e4 : us 4 = .bool true := hV 4 (by simp)
    have v4 := (frame_at2 (us := us) hl (show (tabS[26]?).join = some 4 from rfl)).trans e4
    generalize frame tabS a0 us = fr at *
    exact val_ok (v := .bool true) (w' := w') (by go_simp) hG (Below.refl _ _) rfl
  · refine step_guard [5] (by kernel_rfl) (j := 5) (t := 27) (b := true) rfl (by simp) rfl hl rfl (fun v w h => h) fun us w' hG hV => ?_
    have e5 : us 5 = .bool true := hV 5 (by simp)
    have v5 := (frame_at2 (us := us) hl (show (tabS[27]?).join = some 5 from rfl)).trans e5
    generalize frame tabS a0 us = fr at *
    exact call_ok (f := 8) (args := #[]) (by go_simp) ((alive_any w').mono fun e w'' h => ⟨_, h.1, hG.below h.2, h.2, rfl⟩)
  · refine step_plain [5, 6] (by kernel_rfl) rfl fun us w' hG hV => ?_
    have e5 : us 5 = .bool true := hV 5 (by simp)
    have v5 := (frame_at2 (us := us) hl (show (tabS[27]?).join = some 5 from rfl)).trans e5
    have e6 : us 6 = .bool true := hV 6 (by simp)
    have v6 := (frame_at2 (us := us) hl (show (tabS[28]?).join = some 6 from rfl)).trans e6
    generalize frame tabS a0 us = fr at *
    exact val_ok (v := .bool true) (w' := w') (by go_simp) hG (Below.refl _ _) rfl
  · refine step_plain [7] (by kernel_rfl) rfl fun us w' hG hV => ?_
    have e7 : us 7 = .bool true := hV 7 (by simp)
    have v7 := (frame_at2 (us := us) hl (show (tabS[29]?).join = some 7 from rfl)).trans e7
    generalize frame tabS a0 us = fr at *
    exact val_ok (v := .bool true) (w' := w') (by go_simp) hG (Below.refl _ _) rfl
  · intro us w' hG hV
    have e8 : us 8 = .bool true := hV 8 (by decide)
    subst ha0
    simp only [Act.put, frame, tabS, fill]
    rw [e8]
    go_wp2_with fail
    go_ret
    exact ⟨rfl, hG.2.2⟩
theorem hmacshort_walk (A : Option Addr) (n c : Nat) (k : List Int) (A2 : Option Addr) (n2 c2 : Nat) (msg : List Int) (w : World) (hk : Key w A n c k) (hm : Key w A2 n2 c2 msg) :
    Calls Try.prog 6 #[.slice A n c, .slice A2 n2 c2] w (AliveRet w) := by
  have h1 := hk.cap
  have h2 := hk.max
  have h3 := hm.cap
  have h4 := hm.max
  by_cases h : 1000 < n ∨ 1000 < n2
  · exact hmacshort_long A n c A2 n2 c2 w (by omega) (by omega) h
  · exact hmacshort_short A n c k A2 n2 c2 msg w hk hm (by omega) (by omega)
end Go.Proofs.Ytbpolandhjcggaa.hmC
