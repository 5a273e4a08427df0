/-
  Floors and plateaus: the document's; the laws of pmtu over what they ask of the program.
-/
import Derived.Test.YtljcekmiockdjaaAdr
import Derived.Test.YtljcekmiockdjaaPk
import Derived.Test.YtljcekmiockdjaaBxC
import Derived.Test.YtljcekmiockdjaaAdD
import Derived.Test.YtljcekmiockdjaaAt
import Derived.Test.YtljcekmiockdjaaIdx
import Derived.Test.YtljcekmiockdjaaFree
import Derived.OpenShut
import Derived.ChangeArms
import Derived.Deep.CutRange
import Derived.Deep.Cut
namespace Go.Proofs.Ytljcekmiockdjaa.pmC
open Go.ChangeShapes Go.WideShapes Go.ChangeAt Go.RowKit
open Go.Proofs.Ytljcekmiockdjaa.memC Go.Proofs.Ytljcekmiockdjaa.genC Go.Proofs.Ytljcekmiockdjaa.butC Go.Proofs.Ytljcekmiockdjaa.freeC Go.Proofs.Ytljcekmiockdjaa.adC
set_option linter.unusedVariables false
set_option linter.constructorNameAsVariable false
def floorL (s : Bool) : Int := if s then 1280 else 576
def platL : List Int := [32000, 17914, 8166, 4352, 2002, 1492, 1280, 1006, 576, 508, 296, 68]
def plat (n : Int) : Int := (platL.find? fun x => decide (x < n)).getD 68
set_option maxRecDepth 100000 in
theorem rfloor_any (s : Bool) (b : List Int) (w : World) : Calls Try.prog 6 #[.agg (adrV s b)] w (Ret w (.int .i64 (floorL s))) := by
  have k1 : (w.alloc (.cells (adrV s b) 24)).cell? ⟨w.heap.size, 0, none⟩ = some (.bool s) := by rw [cell_new]; exact adrV_six _ _
  have B := Lib.hid (alloc_below w (.cells (adrV s b) 24))
  generalize adrV s b = C at *
  cases s
  all_goals
    go_enter Try.func6, Try.ntmps6
    go_wp2_with fail
    go_ret
    exact ⟨rfl, B.out⟩
theorem find_drop {p : Int → Bool} : ∀ (l : List Int) (i : Nat), (∀ j x, j < i → l[j]? = some x → p x = false) → l.find? p = (l.drop i).find? p
  | l, 0, _ => by rw [List.drop_zero]
  | [], i + 1, _ => rfl
  | x :: r, i + 1, h => by
    rw [List.find?_cons, h 0 x (by omega) rfl, List.drop_succ_cons]
    exact find_drop r i fun j y hj hy => h (j + 1) y (by omega) (by simpa using hy)
set_option maxRecDepth 100000 in
theorem rplateau_any (n : Int) (w : World) : Calls Try.prog 8 #[.int .i64 n] w (Ret w (.int .i64 (plat n))) := by
  obtain ⟨PL, hPL⟩ : ∃ PL : Array Value, PL = (#[.int .i64 32000, .int .i64 17914, .int .i64 8166, .int .i64 4352, .int .i64 2002, .int .i64 1492, .int .i64 1280, .int .i64 1006, .int .i64 576, .int .i64 508, .int .i64 296, .int .i64 68] : Array Value) := ⟨_, rfl⟩
  have HC := Lib.hid (show ∀ i x, platL[i]? = some x → PL[i]? = some (Value.int .i64 x) from fun i x hx => by
    have e : PL = (platL.map (Value.int .i64)).toArray := by rw [hPL]; rfl
    rw [e, List.getElem?_toArray, List.getElem?_map, hx]; rfl)
  have HL := Lib.hid (show platL.length = 12 from rfl)
  have HP := Lib.hid (show plat n = (platL.find? fun x => decide (x < n)).getD 68 from rfl)
  have R := Lib.hid (show (w.alloc (.cells PL 3)).heap[w.heap.size]? = some (.cells PL 3 (0, 0)) from heap_alloc_new _ _)
  have B := Lib.hid (alloc_below w (.cells PL 3))
  generalize plat n = V at *
  generalize platL = L at *
  go_enter Try.func8, Try.ntmps8
  go_upto_region 2 with fail
  rw [← hPL]
  clear hPL
  generalize w.alloc (.cells PL 3) = W at *
  generalize hg : w.heap.size = g at *
  go_upto_region 3 with fail
  go_loopw [4] (fun u wr => ∃ i : Nat, u = .int .i64 i ∧ i ≤ 12 ∧ (∀ j x, j < i → L[j]? = some x → decide (x < n) = false) ∧ wr = W) (fun u _ => 13 - (intOf u).toNat)
  case atStart => exact ⟨0, rfl, by omega, fun j x h => by omega, rfl⟩
  case round =>
    obtain ⟨i, rfl, hi, hz, rfl⟩ := hrel
    have HZ := Lib.hid hz
    clear hz
    by_cases hlt : i < 12
    · have q6 : (i : Int) < 12 := by omega
      have wi : IntKind.i64.wrap ((i : Int) + 1) = (i : Int) + 1 := IntWalk.i64_in _ (by omega)
      obtain ⟨x, hx⟩ : ∃ x, L[i]? = some x := ⟨_, List.getElem?_eq_getElem (by rw [HL.out]; exact hlt)⟩
      have c0 : wr.cell? ⟨g, i, none⟩ = some (.int .i64 x) := by rw [cell_of_row wr g i _ _ (0, 0) R.out]; exact HC.out i x hx
      have HX := Lib.hid hx
      have HI := Lib.hid hlt
      by_cases hn : x < n
      · have hv := Lib.hid (show V = x by
          rw [HP.out, find_drop L i HZ.out]
          obtain ⟨h2, h3⟩ := List.getElem?_eq_some_iff.1 HX.out
          rw [List.drop_eq_getElem_cons h2, h3, List.find?_cons, decide_eq_true hn]; rfl)
        clear hi hx hlt
        go_wp2_with fail
        go_ret
        exact ⟨by rw [hv.out]; rfl, by rw [hg]; exact B.out⟩
      · have HNX := Lib.hid (show ∀ j y, j < i + 1 → L[j]? = some y → decide (y < n) = false from fun j y hj hy => by
          rcases Nat.lt_or_ge j i with q | q
          · exact HZ.out j y q hy
          · obtain rfl : j = i := by omega
            rw [HX.out] at hy
            injection hy with hy
            subst hy
            exact decide_eq_false hn)
        clear hi hx hlt
        go_wp2_with fail
        go_roundw
        case rel => exact ⟨i + 1, by simp, HI.out, HNX.out, by first | rfl | trivial⟩
        case measure => have := HI.out; simp [intOf]; omega
    have ei : i = 12 := by omega
    have hv := Lib.hid (show V = 68 by
      rw [HP.out, find_drop L i HZ.out, List.drop_of_length_le (by rw [HL.out]; omega)]; rfl)
    subst ei
    have q6 : ¬ ((12 : Nat) : Int) < 12 := by omega
    clear hi hlt
    go_wp2_with fail
    go_ret
    exact ⟨by rw [hv.out]; rfl, by rw [hg]; exact B.out⟩
/-! ### what the laws ask of the program -/
/-- K0, K1: a cache just made, of 1500; one that was told of the address 0; B: the blocks from which on it lies -/
structure FrP (K0 K1 : Nat → World → Nat → Prop) : Prop where
  floor : ∀ (s : Bool) (b : List Int) (w : World), b.length = 16 → Calls Try.prog 5 #[.agg (adrV s b)] w (Ret w (.int .i64 (floorL s)))
  plateau : ∀ (n : Int) (w : World), -9223372036854775808 ≤ n ∧ n ≤ 9223372036854775807 → Calls Try.prog 7 #[.int .i64 n] w (Ret w (.int .i64 (plat n)))
  new : ∀ (w : World), Calls Try.prog 13 #[.int .i64 1500] w fun e w' => ∃ t, e = .returned (.tuple #[.pointer (some ⟨t, 0, none⟩), .int .i64 0]) ∧ K0 w.heap.size w' t ∧ Below w.heap.size w w'
  less : ∀ (B : Nat) (w : World) (t : Nat), K0 B w t → B ≤ w.heap.size → Calls Try.prog 11 #[.pointer (some ⟨t, 0, none⟩), .int .i64 0, .agg zAdr, .int .i64 100] w fun e w' => e = .returned (.bool true) ∧ K1 B w' t ∧ Below B w w'
  get : ∀ (B : Nat) (w : World) (t : Nat), K1 B w t → B ≤ w.heap.size → Calls Try.prog 10 #[.pointer (some ⟨t, 0, none⟩), .int .i64 1, .agg zAdr] w fun e w' => e = .returned (.int .i64 576) ∧ K1 B w' t ∧ Below B w w'
  late : ∀ (B : Nat) (w : World) (t : Nat), K1 B w t → B ≤ w.heap.size → Calls Try.prog 10 #[.pointer (some ⟨t, 0, none⟩), .int .i64 600000, .agg zAdr] w fun e w' => e = .returned (.int .i64 1500) ∧ Below B w w'
def Alive : Prop := ∀ w : World, Calls Try.prog 9 #[] w (Ret w (.bool true))
theorem neq_ptr_nil {P : Program} (w : World) {tp te : TypeId} (a : Addr) (hp : P.underlying tp = some (.pointer te)) : (binOp .neq tp (.pointer (some a)) (.pointer none)).run P w = .ok (.bool true) w := by
  have h : ∀ d : Nat, (Op.equalIn (d + 1) tp (.pointer (some a)) (.pointer none)).run P w = .ok false w := fun d => by
    simp [Op.equalIn, run_underlying hp]
  simp only [binOp]
  simp [Op.equal, Op.maxDepth, h 9999]
set_option maxRecDepth 100000 in
set_option maxHeartbeats 2000000 in
theorem alive_any {K0 K1 : Nat → World → Nat → Prop} (F : FrP K0 K1) : Alive := by
  intro w
  have NW := Lib.hid (F.new w)
  have LS := Lib.hid (fun w' t (h : K0 w.heap.size w' t) hb => F.less w.heap.size w' t h hb)
  have GT := Lib.hid (fun w' t (h : K1 w.heap.size w' t) hb => F.get w.heap.size w' t h hb)
  have LT := Lib.hid (fun w' t (h : K1 w.heap.size w' t) hb => F.late w.heap.size w' t h hb)
  have PL := Lib.hid (fun w' => F.plateau 1500 w' (by omega))
  rw [show plat 1500 = 1492 by decide] at PL
  have he := fun (a : Addr) (w' : World) => neq_ptr_nil (P := Try.prog) w' a Try.underlying31
  have ZB := Lib.hid built_zero
  generalize zAdr = Z at *
  clear F
  go_enter Try.func9, Try.ntmps9
  go_upto_region 2 with (first
    | go_skip
    | (go_at_call 13; (refine NW.out.mono ?_); rintro e w2 ⟨t, rfl, hk, hb⟩
       have KK := Lib.hid hk
       have BB := Lib.hid hb
       have he1 := he ⟨t, 0, none⟩ w2
       clear hk hb))
  clear he
  go_wp2_with (first
    | go_skip
    | (refine adC.wpList_runG (by kernel_rfl) _ (adC.built_run (T := 24) (C := Z) rfl ZB.out) ?_)
    | (go_at_call 11; (with_reducible refine (LS.out _ _ KK.out BB.out.size).mono ?_); rintro e w3 ⟨rfl, hk, hb⟩
       have KK := Lib.hid hk
       have BB := Lib.hid (BB.out.trans hb)
       clear hk hb)
    | (go_at_call 10; (with_reducible refine (GT.out _ _ KK.out BB.out.size).mono ?_); rintro e w4 ⟨rfl, hk, hb⟩
       have KK := Lib.hid hk
       have BB := Lib.hid (BB.out.trans hb)
       clear hk hb)
    | (go_at_call 10; (with_reducible refine (LT.out _ _ KK.out BB.out.size).mono ?_); rintro e w5 ⟨rfl, hb⟩
       have BB := Lib.hid (BB.out.trans hb)
       clear hb)
    | (go_at_call 7; (with_reducible refine (PL.out _).mono ?_); rintro e w6 ⟨rfl, hb⟩
       have BB := Lib.hid (BB.out.trans (hb.mono BB.out.size))
       clear hb))
  go_ret
  exact ⟨rfl, BB.out⟩
def pfV (g : Nat) (C : Array Value) (n X Y : Int) : Nat → Value → World → Prop
  | 0, v, _ => v = .agg C
  | 1, v, _ => v = .int .i64 X
  | 2, v, _ => v = .agg C
  | 3, v, _ => v = .int .i64 X
  | 4, v, _ => v = .bool true
  | 5, v, _ => v = .bool true
  | 6, v, _ => v = .int .i64 n
  | 7, v, _ => v = .int .i64 Y
  | 8, v, _ => v = .int .i64 n
  | 9, v, _ => v = .int .i64 Y
  | 10, v, _ => v = .bool true
  | 11, v, _ => v = .bool true
  | 12, v, _ => v = .bool true
  | 13, v, _ => v = .bool true
  | 14, v, _ => v = .bool true
  | 15, v, _ => v = .bool true
  | _, _, _ => True
theorem pfV.keep (g : Nat) (C : Array Value) (n X Y : Int) (i : Nat) (v : Value) (w w' : World) (hb : Below w.heap.size w w') (h : pfV g C n X Y i v w) : pfV g C n X Y i v w' := by
  unfold pfV at h ⊢
  split at h <;> exact h
def pfT : List (Option Nat) := [none, none, none, none, some 15, some 0, some 1, some 2, some 3, some 4, some 5, some 6, some 7, some 8, some 9, some 10, some 11, some 12, some 13, some 14]
set_option maxRecDepth 100000 in
set_option maxHeartbeats 2000000 in
theorem floors_walk {K0 K1 : Nat → World → Nat → Prop} (F : FrP K0 K1) (hal : Alive) (s : Bool) (b : List Int) (n : Int) (w : World) (hl : b.length = 16) (hn : -9223372036854775808 ≤ n ∧ n ≤ 9223372036854775807) :
    Calls Try.prog 3 #[.agg (adrV s b), .int .i64 n] w (Ret w (.bool true)) := by
  obtain ⟨W, hW⟩ : ∃ W, W = w.alloc (.cells (adrV s b) 24) := ⟨_, rfl⟩
  obtain ⟨g, hg⟩ : ∃ g, g = w.heap.size := ⟨_, rfl⟩
  have RC := Lib.hid (show W.heap[g]? = some (.cells (adrV s b) 24 (0, 0)) by rw [hW, hg]; exact heap_alloc_new _ _)
  have HB := Lib.hid (show Below w.heap.size w W by rw [hW]; exact alloc_below _ _)
  have IC := Lib.hid (show (Try.prog.info? 24).map (·.size) = some (adrV s b).size by rw [adrV_size hl]; exact addr_info)
  have FL := Lib.hid (fun w' => F.floor s b w' hl)
  have rFL := Lib.hid (fun w' => rfloor_any s b w')
  have PL := Lib.hid (fun w' => F.plateau n w' hn)
  have rPL := Lib.hid (fun w' => rplateau_any n w')
  have AL := Lib.hid hal
  generalize adrV s b = C at *
  generalize floorL s = X at *
  generalize plat n = Y at *
  clear F hal hl hn
  go_enter Try.func3, Try.ntmps3
  go_upto_region 1 with fail
  rw [← hW, ← hg]
  clear hW hg
  refine with_act fun a0 ha0 => ?_
  have hl : pfT.length = a0.tmps.size := by rw [ha0]; rfl
  have k2 : a0.tmps[2]?.getD undef = .pointer (some ⟨g, 0, none⟩) := by rw [ha0]; rfl
  have k1 : a0.tmps[1]?.getD undef = .int .i64 n := by rw [ha0]; rfl
  refine wp_region_vals (by kernel_rfl) pfT (by kernel_rfl) (by kernel_rfl) hl (fun i => if i = 15 then a0.tmps[4]?.getD undef else a0.tmps[i + 5]?.getD undef) (by rw [ha0]; rfl) (Gr W) (pfV g C n X Y) (show Gr _ _ from (Below.refl _ _).drew) (pfV.keep _ _ _ _ _) ⟨?_, ?_, ?_, ?_, ?_, ?_, ?_, ?_, ?_, ?_, ?_, ?_, ?_, ?_, ?_, ?_, trivial⟩ ?_
  · refine step_plain [] (by kernel_rfl) rfl fun us w' hG hV => ?_
    have o2 := (frame_old2 (us := us) (a := a0) (show (pfT[2]?).join = none from rfl)).trans k2
    have hg1 := hG.row RC.out
    generalize frame pfT a0 us = fr at *
    exact load_ok 24 2 rfl (g) o2 _ _ (0, 0) _ hg1 Try.underlying24 rfl IC.out hG rfl
  · refine step_plain [0] (by kernel_rfl) rfl fun us w' hG hV => ?_
    have e0 : us 0 = .agg C := hV 0 (by simp)
    have v0 := (frame_at2 (us := us) hl (show (pfT[5]?).join = some 0 from rfl)).trans e0
    generalize frame pfT a0 us = fr at *
    exact call_ok (f := 5) (args := #[.agg C]) (by go_simp) ((FL.out w').mono fun e w'' h => ⟨_, h.1, hG.below h.2, h.2, rfl⟩)
  · refine step_plain [] (by kernel_rfl) rfl fun us w' hG hV => ?_
    have o2 := (frame_old2 (us := us) (a := a0) (show (pfT[2]?).join = none from rfl)).trans k2
    have hg1 := hG.row RC.out
    generalize frame pfT a0 us = fr at *
    exact load_ok 24 2 rfl (g) o2 _ _ (0, 0) _ hg1 Try.underlying24 rfl IC.out hG rfl
  · refine step_plain [2] (by kernel_rfl) rfl fun us w' hG hV => ?_
    have e2 : us 2 = .agg C := hV 2 (by simp)
    have v2 := (frame_at2 (us := us) hl (show (pfT[7]?).join = some 2 from rfl)).trans e2
    generalize frame pfT a0 us = fr at *
    exact call_ok (f := 6) (args := #[.agg C]) (by go_simp) ((rFL.out w').mono fun e w'' h => ⟨_, h.1, hG.below h.2, h.2, rfl⟩)
  · refine step_plain [1, 3] (by kernel_rfl) rfl fun us w' hG hV => ?_
    have e1 : us 1 = .int .i64 X := hV 1 (by simp)
    have v1 := (frame_at2 (us := us) hl (show (pfT[6]?).join = some 1 from rfl)).trans e1
    have e3 : us 3 = .int .i64 X := hV 3 (by simp)
    have v3 := (frame_at2 (us := us) hl (show (pfT[8]?).join = some 3 from rfl)).trans e3
    generalize frame pfT a0 us = fr at *
    exact val_ok (v := .bool true) (w' := w') (by go_simp) hG (Below.refl _ _) rfl
  · refine step_plain [4] (by kernel_rfl) rfl fun us w' hG hV => ?_
    have e4 : us 4 = .bool true := hV 4 (by simp)
    have v4 := (frame_at2 (us := us) hl (show (pfT[9]?).join = some 4 from rfl)).trans e4
    generalize frame pfT a0 us = fr at *
    exact val_ok (v := .bool true) (w' := w') (by go_simp) hG (Below.refl _ _) rfl
  · refine step_guard [5] (by kernel_rfl) (j := 5) (t := 10) (b := true) rfl (by simp) rfl hl rfl (fun v w h => h) fun us w' hG hV => ?_
    have o1 := (frame_old2 (us := us) (a := a0) (show (pfT[1]?).join = none from rfl)).trans k1
    generalize frame pfT a0 us = fr at *
    exact val_ok (v := .int .i64 n) (w' := w') (by go_simp) hG (Below.refl _ _) rfl
  · refine step_guard [5, 6] (by kernel_rfl) (j := 5) (t := 10) (b := true) rfl (by simp) rfl hl rfl (fun v w h => h) fun us w' hG hV => ?_
    have e6 : us 6 = .int .i64 n := hV 6 (by simp)
    have v6 := (frame_at2 (us := us) hl (show (pfT[11]?).join = some 6 from rfl)).trans e6
    generalize frame pfT a0 us = fr at *
    exact call_ok (f := 7) (args := #[.int .i64 n]) (by go_simp) ((PL.out w').mono fun e w'' h => ⟨_, h.1, hG.below h.2, h.2, rfl⟩)
  · refine step_guard [5] (by kernel_rfl) (j := 5) (t := 10) (b := true) rfl (by simp) rfl hl rfl (fun v w h => h) fun us w' hG hV => ?_
    have o1 := (frame_old2 (us := us) (a := a0) (show (pfT[1]?).join = none from rfl)).trans k1
    generalize frame pfT a0 us = fr at *
    exact val_ok (v := .int .i64 n) (w' := w') (by go_simp) hG (Below.refl _ _) rfl
  · refine step_guard [5, 8] (by kernel_rfl) (j := 5) (t := 10) (b := true) rfl (by simp) rfl hl rfl (fun v w h => h) fun us w' hG hV => ?_
    have e8 : us 8 = .int .i64 n := hV 8 (by simp)
    have v8 := (frame_at2 (us := us) hl (show (pfT[13]?).join = some 8 from rfl)).trans e8
    generalize frame pfT a0 us = fr at *
    exact call_ok (f := 8) (args := #[.int .i64 n]) (by go_simp) ((rPL.out w').mono fun e w'' h => ⟨_, h.1, hG.below h.2, h.2, rfl⟩)
  · refine step_guard [5, 7, 9] (by kernel_rfl) (j := 5) (t := 10) (b := true) rfl (by simp) rfl hl rfl (fun v w h => h) fun us w' hG hV => ?_
    have e7 : us 7 = .int .i64 Y := hV 7 (by simp)
    have v7 := (frame_at2 (us := us) hl (show (pfT[12]?).join = some 7 from rfl)).trans e7
    have e9 : us 9 = .int .i64 Y := hV 9 (by simp)
    have v9 := (frame_at2 (us := us) hl (show (pfT[14]?).join = some 9 from rfl)).trans e9
    generalize frame pfT a0 us = fr at *
    exact val_ok (v := .bool true) (w' := w') (by go_simp) hG (Below.refl _ _) rfl
  · refine step_plain [5, 10] (by kernel_rfl) rfl fun us w' hG hV => ?_
    have e5 : us 5 = .bool true := hV 5 (by simp)
    have v5 := (frame_at2 (us := us) hl (show (pfT[10]?).join = some 5 from rfl)).trans e5
    have e10 : us 10 = .bool true := hV 10 (by simp)
    have v10 := (frame_at2 (us := us) hl (show (pfT[15]?).join = some 10 from rfl)).trans e10
    generalize frame pfT a0 us = fr at *
    exact val_ok (v := .bool true) (w' := w') (by go_simp) hG (Below.refl _ _) rfl
  · refine step_plain [11] (by kernel_rfl) rfl fun us w' hG hV => ?_
    have e11 : us 11 = .bool true := hV 11 (by simp)
    have v11 := (frame_at2 (us := us) hl (show (pfT[16]?).join = some 11 from rfl)).trans e11
    generalize frame pfT a0 us = fr at *
    exact val_ok (v := .bool true) (w' := w') (by go_simp) hG (Below.refl _ _) rfl
  · refine step_guard [12] (by kernel_rfl) (j := 12) (t := 17) (b := true) rfl (by simp) rfl hl rfl (fun v w h => h) fun us w' hG hV => ?_
    generalize frame pfT a0 us = fr at *
    exact call_ok (f := 9) (args := #[]) (by go_simp) ((AL.out w').mono fun e w'' h => ⟨_, h.1, hG.below h.2, h.2, rfl⟩)
  · refine step_plain [12, 13] (by kernel_rfl) rfl fun us w' hG hV => ?_
    have e12 : us 12 = .bool true := hV 12 (by simp)
    have v12 := (frame_at2 (us := us) hl (show (pfT[17]?).join = some 12 from rfl)).trans e12
    have e13 : us 13 = .bool true := hV 13 (by simp)
    have v13 := (frame_at2 (us := us) hl (show (pfT[18]?).join = some 13 from rfl)).trans e13
    generalize frame pfT a0 us = fr at *
    exact val_ok (v := .bool true) (w' := w') (by go_simp) hG (Below.refl _ _) rfl
  · refine step_plain [14] (by kernel_rfl) rfl fun us w' hG hV => ?_
    have e14 : us 14 = .bool true := hV 14 (by simp)
    have v14 := (frame_at2 (us := us) hl (show (pfT[19]?).join = some 14 from rfl)).trans e14
    generalize frame pfT a0 us = fr at *
    exact val_ok (v := .bool true) (w' := w') (by go_simp) hG (Below.refl _ _) rfl
  · intro us w5 hG hV
    have e9 : us 15 = .bool true := hV 15 (by decide)
    have HG := Lib.hid (show Gr W w5 from hG)
    subst ha0
    simp only [frame, pfT, fill]
    rw [e9]
    clear hV hl hG e9 k1 k2
    go_wp2_with fail
    go_ret
    exact ⟨rfl, HB.out.trans (Below.mono HG.out HB.out.size)⟩
end Go.Proofs.Ytljcekmiockdjaa.pmC
