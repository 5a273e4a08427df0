/-
  3 texts of a proof, joined.
-/
import Derived.Test.YtdoahlhkbhpgpaaDoorMg16
import Derived.Test.YtdoahlhkbhpgpaaDoorMg13
import Derived.Test.YtdoahlhkbhpgpaaDoorMg12
import Derived.Deep.OwnRows

namespace Go.Proofs.YtdoahlhkbhpgpaaDoor.adC
open Go.ChangeShapes Go.WideShapes Go.ChangeAt Go.RowKit
open Go.Proofs.YtdoahlhkbhpgpaaDoor.memC Go.Proofs.YtdoahlhkbhpgpaaDoor.genC Go.Proofs.YtdoahlhkbhpgpaaDoor.butC Go.Proofs.YtdoahlhkbhpgpaaDoor.freeC Go.Proofs.YtdoahlhkbhpgpaaDoor.txC
set_option linter.unusedVariables false
theorem z_sum (gs : List Int) : ∀ i, zA gs i + zM gs i ≤ i
  | 0 => Nat.le_refl _
  | i + 1 => by
    have ih := z_sum gs i
    obtain ⟨h1, h2, h3⟩ := z_le gs i
    by_cases h : gs.getD i 0 = 0
    · by_cases hm : zM gs i < zR gs i + 1
      · obtain ⟨e1, e2, e3⟩ := z_more h hm; omega
      · obtain ⟨e1, e2, e3⟩ := z_less h hm; omega
    · obtain ⟨e1, e2, e3⟩ := z_not h; omega
def hexT (gs : List Int) : List Int := joinL [58] (gs.map fun x => hexL x.toNat)
def tenT (gs : List Int) : List Int := joinL [46] (gs.map fun x => tenL x.toNat)
/-- the text as the program writes it -/
def ctextL (s : Bool) (b : List Int) : List Int :=
  if s then (if zM (grB b) 8 < 2 then hexT (grB b) else (hexT ((grB b).take (zA (grB b) 8)) ++ [58, 58]) ++ hexT ((grB b).drop (zA (grB b) 8 + zM (grB b) 8))) else tenT (adrL false b)
theorem hexT_len {gs : List Int} (hy : ∀ x ∈ gs, W16 x) (hn : gs.length ≤ 16) : (hexT gs).length ≤ 2000000 := by
  refine Nat.le_trans (joinL_len [58] _ 65540 fun l hl => ?_) ?_
  · obtain ⟨x, hx, rfl⟩ := List.mem_map.1 hl
    have h1 := hy x hx
    have h2 := hexL_len x.toNat
    unfold W16 at h1
    omega
  · rw [List.length_map]
    simp only [List.length_cons, List.length_nil]
    have : gs.length * (65540 + 1) ≤ 16 * (65540 + 1) := Nat.mul_le_mul_right _ hn
    omega
theorem cut16_to (A : Option Addr) (n c e : Nat) (h2 : e ≤ c) (w : World) :
    (Instr.slice 41 (.slice A n c) none (some (.int .i64 (e : Int))) none).run Tryd.prog w = .ok (.slice A e c) w := by
  have k2 : (e : Int) ≤ (c : Int) := by omega
  go_simp
theorem cut16_end (A : Option Addr) (n c f : Nat) (h1 : f ≤ n) (h2 : n ≤ c) (w : World) :
    (Instr.slice 41 (.slice A n c) (some (.int .i64 (f : Int))) none none).run Tryd.prog w = .ok (.slice (if c = f then A else A.map (·.add f)) (n - f) (c - f)) w := by
  have k1 : (f : Int) ≤ (n : Int) := by omega
  by_cases h : c = f
  · subst h
    rw [if_pos rfl]
    go_simp
  · rw [if_neg h]
    go_simp
def txV (g p m j q : Nat) (B : Option Addr) (SA SB SC SD : ByteArray) : Nat → Value → World → Prop
  | 0, v, _ => v = .slice (some ⟨g, 0, none⟩) 8 8
  | 1, v, _ => v = .int .i64 p
  | 2, v, _ => v = .slice (some ⟨g, 0, none⟩) p 8
  | 3, v, _ => v = .string SA
  | 4, v, _ => v = .string SB
  | 5, v, _ => v = .slice (some ⟨g, 0, none⟩) 8 8
  | 6, v, _ => v = .int .i64 p
  | 7, v, _ => v = .int .i64 m
  | 8, v, _ => v = .int .i64 j
  | 9, v, _ => v = .slice B q q
  | 10, v, _ => v = .string SC
  | 11, v, _ => v = .string SD
  | 12, v, _ => v = .string SD
  | _, _, _ => True
theorem txV.keep (g p m j q : Nat) (B : Option Addr) (SA SB SC SD : ByteArray) (i : Nat) (v : Value) (w w' : World) (hb : Below w.heap.size w w') (h : txV g p m j q B SA SB SC SD i v w) : txV g p m j q B SA SB SC SD i v w' := by
  unfold txV at h ⊢
  split at h <;> exact h
def txT : List (Option Nat) := [none, none, some 12, none, none, none, none, none, none, none, none, none, none, none, none, none, none, none, none, none, none, none, none, some 0, some 1, some 2, some 3, some 4, some 5, some 6, some 7, some 8, some 9, some 10, some 11]
set_option maxRecDepth 100000 in
set_option maxHeartbeats 2000000 in
theorem ctext_four (b : List Int) (w : World) (hg : Gb w) (hl : b.length = 16) (hy : ∀ x ∈ b, Byte x) :
    Calls Tryd.prog 11 #[.agg (adrV false b)] w (Ret w (.string (strOfNums (ctextL false b)))) := by
  have HR := Lib.hid (show (w.alloc (.cells (adrV false b) 24)).heap[w.heap.size]? = some (.cells (adrV false b) 24 (0, 0)) from heap_alloc_new w _)
  have HI := Lib.hid (adr_info false hl)
  have HB := Lib.hid (alloc_below w (.cells (adrV false b) 24))
  have k1 : (w.alloc (.cells (adrV false b) 24)).cell? ⟨w.heap.size, 0, none⟩ = some (.bool false) := by rw [cell_new]; exact adrV_six _ _
  have BY := Lib.hid (fun w' => cbytes_any false b w' hl)
  have HG := Lib.hid (hg.below HB.out)
  have LN := Lib.hid (show (adrL false b).length = 4 from adrL_len hl)
  have YN := Lib.hid (show ∀ x ∈ adrL false b, Byte x from fun x hx => hy x (List.mem_of_mem_take hx))
  have TX : Hid (ctextL false b = joinL [46] ((adrL false b).map fun x => tenL x.toNat)) := Lib.hid rfl
  rw [TX.out]
  generalize adrL false b = bs at *
  generalize adrV false b = C at *
  obtain ⟨W, hW⟩ : ∃ W, W = w.alloc (.cells C 24) := ⟨_, rfl⟩
  rw [← hW] at HR HB HG k1
  clear hg hl hy
  go_enter Tryd.func11, Tryd.ntmps11
  go_upto_region 1 with fail
  rw [← hW]
  clear hW
  go_wp2_with (first
    | (refine wpList_load_row rfl 24 (.tmp 1) rfl w.heap.size rfl _ _ _ _ HR.out Tryd.underlying24 rfl HI.out ?_)
    | (go_at_call 5; (refine (BY.out _).mono ?_); rintro e w2 ⟨A, n, c, rfl, h1, h2, h3, O, B2⟩
       have HB2 := Lib.hid (HB.out.trans (B2.mono HB.out.size))
       have J := Lib.hid (join8 A n c bs w2 (HG.out.below B2) (by have := O.nums; exact this) YN.out (by rw [← h1, LN.out]; decide))
       clear h1 h2 h3 O B2)
    | (go_at_call 16; (refine J.out.mono ?_); rintro e w3 ⟨rfl, B3⟩
       have HB3 := Lib.hid (HB2.out.trans (B3.mono HB2.out.size))
       clear B3))
  go_ret
  exact ⟨rfl, HB3.out⟩
set_option maxRecDepth 100000 in
set_option maxHeartbeats 2000000 in
theorem ctext_six (b : List Int) (w : World) (hg : Gb w) (hl : b.length = 16) (hy : ∀ x ∈ b, Byte x) :
    Calls Tryd.prog 11 #[.agg (adrV true b)] w (Ret w (.string (strOfNums (ctextL true b)))) := by
  have HR := Lib.hid (show (w.alloc (.cells (adrV true b) 24)).heap[w.heap.size]? = some (.cells (adrV true b) 24 (0, 0)) from heap_alloc_new w _)
  have HI := Lib.hid (adr_info true hl)
  have HB := Lib.hid (alloc_below w (.cells (adrV true b) 24))
  have k1 : (w.alloc (.cells (adrV true b) 24)).cell? ⟨w.heap.size, 0, none⟩ = some (.bool true) := by rw [cell_new]; exact adrV_six _ _
  have GO := Lib.hid (fun w' => groups_of true b w' hl hy)
  have HG := Lib.hid (hg.below HB.out)
  have LN := Lib.hid (grB_len b)
  have YN := Lib.hid (grB_w16 hl hy)
  have TX1 : Hid (zM (grB b) 8 < 2 → ctextL true b = hexT (grB b)) := Lib.hid fun h => by unfold ctextL; rw [if_pos rfl, if_pos h]
  have TX2 : Hid (¬ zM (grB b) 8 < 2 → ctextL true b = (hexT ((grB b).take (zA (grB b) 8)) ++ [58, 58]) ++ hexT ((grB b).drop (zA (grB b) 8 + zM (grB b) 8))) := Lib.hid fun h => by unfold ctextL; rw [if_pos rfl, if_neg h]
  have ZS := Lib.hid (z_sum (grB b) 8)
  have ZR := Lib.hid (fun (w' : World) (A : Option Addr) (h : Nums .u16 w' w'.heap.size A 8 (grB b)) => zeros_any A 8 8 (grB b) w' h (by decide))
  generalize grB b = gs at *
  generalize adrV true b = C at *
  generalize ctextL true b = T at *
  generalize zA gs 8 = p at *
  generalize zM gs 8 = m at *
  obtain ⟨W, hW⟩ : ∃ W, W = w.alloc (.cells C 24) := ⟨_, rfl⟩
  rw [← hW] at HR HB HG k1
  clear hg hl hy
  go_enter Tryd.func11, Tryd.ntmps11
  go_upto_region 1 with fail
  rw [← hW]
  clear hW
  go_upto_region 4 with (first
    | (refine wpList_load_row rfl 24 (.tmp 1) rfl w.heap.size rfl _ _ _ _ HR.out Tryd.underlying24 rfl HI.out ?_)
    | (go_at_call 17; (refine (GO.out _).mono ?_); rintro e w2 ⟨g, rfl, NN, B2⟩
       have HB2 := Lib.hid (HB.out.trans (B2.mono HB.out.size))
       have HG2 := Lib.hid (HG.out.below B2)
       have HN := Lib.hid NN
       have HZ := Lib.hid (ZR.out w2 _ NN)
       clear NN B2))
  clear k1
  by_cases h2 : m < 2
  · have hz : (m : Int) < 2 := by omega
    have J := Lib.hid (join16 _ 8 8 gs w2 HG2.out HN.out YN.out (by decide))
    have TX : Hid (T = joinL [58] (gs.map fun x => hexL x.toNat)) := Lib.hid (TX1.out h2)
    rw [← TX.out] at J
    clear h2 TX1 TX2
    go_wp2_with (first
      | (go_at_call 18; (refine HZ.out.mono ?_); rintro e w3 ⟨rfl, rfl⟩)
      | (go_at_call 19; (refine J.out.mono ?_); rintro e w3 ⟨rfl, B3⟩
         have HB3 := Lib.hid (HB2.out.trans (B3.mono HB2.out.size))
         clear B3))
    go_ret
    exact ⟨rfl, HB3.out⟩
  · have hz : ¬ (m : Int) < 2 := by omega
    go_upto_region 7 with (first
      | (go_at_call 18; (refine HZ.out.mono ?_); rintro e w3 ⟨rfl, rfl⟩))
    have HT := Lib.hid (TX2.out h2)
    obtain ⟨j, hj⟩ : ∃ j, j = p + m := ⟨_, rfl⟩
    have hj8 : j ≤ 8 := by have := ZS.out; omega
    have hp8 : p ≤ 8 := by omega
    obtain ⟨q, hq⟩ : ∃ q, q = 8 - j := ⟨_, rfl⟩
    have HB4 := HB2
    generalize w2 = wr at *
    have K2 := Lib.hid (fun w' => cut16_to (some ⟨g, 0, none⟩) 8 8 p hp8 w')
    obtain ⟨B, hBe⟩ : ∃ B, B = (if 8 = j then some (⟨g, 0, none⟩ : Addr) else (some (⟨g, 0, none⟩ : Addr)).map (·.add j)) := ⟨_, rfl⟩
    have K9 : Hid (∀ w', (Instr.slice 41 (.slice (some ⟨g, 0, none⟩) 8 8) (some (.int .i64 (j : Int))) none none).run Tryd.prog w' = .ok (.slice B q q) w') := Lib.hid fun w' => by
      rw [hq, hBe]; exact cut16_end (some ⟨g, 0, none⟩) 8 8 j hj8 (Nat.le_refl _) w'
    have NQ : Hid (Nums .u16 wr wr.heap.size B q (gs.drop j)) := Lib.hid (by rw [hq, hBe]; exact HN.out.cut hj8 (Nat.le_refl _))
    have JA : Hid (∀ w' (hG : Gr wr w'), Calls Tryd.prog 19 #[.slice (some ⟨g, 0, none⟩) p 8, .int .i64 16, .string ⟨#[58]⟩] w' (Ret w' (.string (strOfNums (hexT (gs.take p)))))) := Lib.hid fun w' hG =>
      join16 _ p 8 (gs.take p) w' (HG2.out.below hG) (((HN.out.upto hp8).below hG).more (Below.size hG)) (fun x hx => YN.out x (List.mem_of_mem_take hx)) (by omega)
    have JC : Hid (∀ w' (hG : Gr wr w'), Calls Tryd.prog 19 #[.slice B q q, .int .i64 16, .string ⟨#[58]⟩] w' (Ret w' (.string (strOfNums (hexT (gs.drop j)))))) := Lib.hid fun w' hG =>
      join16 _ q q (gs.drop j) w' (HG2.out.below hG) ((NQ.out.below hG).more (Below.size hG)) (fun x hx => YN.out x (List.mem_of_mem_drop hx)) (by omega)
    have L1 : (hexT (gs.take p)).length ≤ 2000000 := hexT_len (fun x hx => YN.out x (List.mem_of_mem_take hx)) (by rw [List.length_take]; omega)
    have L2 : (hexT (gs.drop j)).length ≤ 2000000 := hexT_len (fun x hx => YN.out x (List.mem_of_mem_drop hx)) (by rw [List.length_drop, LN.out]; omega)
    have WJ := Lib.hid (And.intro (show (p : Int) + (m : Int) = (j : Int) by omega) (show IntKind.i64.wrap (j : Int) = (j : Int) from IntWalk.i64_in _ (by omega)))
    have z1 := strOfNums_size (hexT (gs.take p))
    have z2 := strOfNums_size (hexT (gs.drop j))
    have a1 : strOfNums (hexT (gs.take p)) ++ ({ data := #[58, 58] } : ByteArray) = strOfNums (hexT (gs.take p) ++ [58, 58]) := strOf_append _ [58, 58]
    have a2 : strOfNums (hexT (gs.take p) ++ [58, 58]) ++ strOfNums (hexT (gs.drop j)) = strOfNums T := by rw [strOf_append, HT.out, hj]
    have z3 : (strOfNums (hexT (gs.take p) ++ [58, 58])).size ≤ 2000002 := by rw [strOfNums_size, List.length_append]; simp only [List.length_cons, List.length_nil]; omega
    generalize strOfNums (hexT (gs.take p) ++ [58, 58]) = SB at *
    generalize strOfNums (hexT (gs.take p)) = SA at *
    generalize strOfNums (hexT (gs.drop j)) = SC at *
    generalize strOfNums T = SD at *
    have AB := Lib.hid (And.intro a1 (show SA.size ≤ 9223372036854775805 by omega))
    have BC := Lib.hid (And.intro a2 (show SB.size + SC.size ≤ 9223372036854775807 by omega))
    clear z1 z2 z3 a1 a2 L1 L2 hq hj hz h2 hBe TX1 TX2 HZ
    refine with_act fun a0 ha0 => ?_
    have hl : txT.length = a0.tmps.size := by rw [ha0]; rfl
    have k3 : a0.tmps[3]?.getD undef = .slice (some ⟨g, 0, none⟩) 8 8 := by rw [ha0]; rfl
    have k4 : a0.tmps[4]?.getD undef = .int .i64 p := by rw [ha0]; rfl
    have k5 : a0.tmps[5]?.getD undef = .int .i64 m := by rw [ha0]; rfl
    refine wp_region_vals (by kernel_rfl) txT (by kernel_rfl) (by kernel_rfl) hl (fun i => if i = 12 then .string { data := #[] } else undef) (by rw [ha0]; rfl) (Gr wr) (txV g p m j q B SA SB SC SD) (gr_drew _) (txV.keep _ _ _ _ _ _ _ _ _ _) ⟨?_, ?_, ?_, ?_, ?_, ?_, ?_, ?_, ?_, ?_, ?_, ?_, ?_, trivial⟩ ?_
    · refine step_plain [] (by kernel_rfl) rfl fun us w' hG hV => ?_
      have o3 := (frame_old2 (us := us) (a := a0) (show (txT[3]?).join = none from rfl)).trans k3
      generalize frame txT a0 us = fr at *
      exact val_ok (v := .slice (some ⟨g, 0, none⟩) 8 8) (w' := w') (by go_simp) hG (Below.refl _ _) rfl
    · refine step_plain [] (by kernel_rfl) rfl fun us w' hG hV => ?_
      have o4 := (frame_old2 (us := us) (a := a0) (show (txT[4]?).join = none from rfl)).trans k4
      generalize frame txT a0 us = fr at *
      exact val_ok (v := .int .i64 p) (w' := w') (by go_simp) hG (Below.refl _ _) rfl
    · refine step_plain [0, 1] (by kernel_rfl) rfl fun us w' hG hV => ?_
      have e0 : us 0 = .slice (some ⟨g, 0, none⟩) 8 8 := hV 0 (by simp)
      have v0 := (frame_at2 (us := us) hl (show (txT[23]?).join = some 0 from rfl)).trans e0
      have e1 : us 1 = .int .i64 p := hV 1 (by simp)
      have v1 := (frame_at2 (us := us) hl (show (txT[24]?).join = some 1 from rfl)).trans e1
      have hs := K2.out w'
      generalize frame txT a0 us = fr at *
      exact val_ok (v := .slice (some ⟨g, 0, none⟩) p 8) (w' := w') (by go_simp) hG (Below.refl _ _) rfl
    · refine step_plain [2] (by kernel_rfl) rfl fun us w' hG hV => ?_
      have e2 : us 2 = .slice (some ⟨g, 0, none⟩) p 8 := hV 2 (by simp)
      have v2 := (frame_at2 (us := us) hl (show (txT[25]?).join = some 2 from rfl)).trans e2
      generalize frame txT a0 us = fr at *
      exact call_ok (f := 19) (args := #[.slice (some ⟨g, 0, none⟩) p 8, .int .i64 16, .string ⟨#[58]⟩]) (by go_simp) ((JA.out w' hG).mono fun e w'' h => ⟨_, h.1, hG.below h.2, h.2, rfl⟩)
    · refine step_plain [3] (by kernel_rfl) rfl fun us w' hG hV => ?_
      have e3 : us 3 = .string SA := hV 3 (by simp)
      have v3 := (frame_at2 (us := us) hl (show (txT[26]?).join = some 3 from rfl)).trans e3
      have hq := AB.out
      generalize frame txT a0 us = fr at *
      exact val_ok (v := .string SB) (w' := w') (by go_simp) hG (Below.refl _ _) rfl
    · refine step_plain [] (by kernel_rfl) rfl fun us w' hG hV => ?_
      have o3 := (frame_old2 (us := us) (a := a0) (show (txT[3]?).join = none from rfl)).trans k3
      generalize frame txT a0 us = fr at *
      exact val_ok (v := .slice (some ⟨g, 0, none⟩) 8 8) (w' := w') (by go_simp) hG (Below.refl _ _) rfl
    · refine step_plain [] (by kernel_rfl) rfl fun us w' hG hV => ?_
      have o4 := (frame_old2 (us := us) (a := a0) (show (txT[4]?).join = none from rfl)).trans k4
      generalize frame txT a0 us = fr at *
      exact val_ok (v := .int .i64 p) (w' := w') (by go_simp) hG (Below.refl _ _) rfl
    · refine step_plain [] (by kernel_rfl) rfl fun us w' hG hV => ?_
      have o5 := (frame_old2 (us := us) (a := a0) (show (txT[5]?).join = none from rfl)).trans k5
      generalize frame txT a0 us = fr at *
      exact val_ok (v := .int .i64 m) (w' := w') (by go_simp) hG (Below.refl _ _) rfl
    · refine step_plain [6, 7] (by kernel_rfl) rfl fun us w' hG hV => ?_
      have e6 : us 6 = .int .i64 p := hV 6 (by simp)
      have v6 := (frame_at2 (us := us) hl (show (txT[29]?).join = some 6 from rfl)).trans e6
      have e7 : us 7 = .int .i64 m := hV 7 (by simp)
      have v7 := (frame_at2 (us := us) hl (show (txT[30]?).join = some 7 from rfl)).trans e7
      have hw := WJ.out
      generalize frame txT a0 us = fr at *
      exact val_ok (v := .int .i64 j) (w' := w') (by go_simp) hG (Below.refl _ _) rfl
    · refine step_plain [5, 8] (by kernel_rfl) rfl fun us w' hG hV => ?_
      have e5 : us 5 = .slice (some ⟨g, 0, none⟩) 8 8 := hV 5 (by simp)
      have v5 := (frame_at2 (us := us) hl (show (txT[28]?).join = some 5 from rfl)).trans e5
      have e8 : us 8 = .int .i64 j := hV 8 (by simp)
      have v8 := (frame_at2 (us := us) hl (show (txT[31]?).join = some 8 from rfl)).trans e8
      have hs := K9.out w'
      generalize frame txT a0 us = fr at *
      exact val_ok (v := .slice B q q) (w' := w') (by go_simp) hG (Below.refl _ _) rfl
    · refine step_plain [9] (by kernel_rfl) rfl fun us w' hG hV => ?_
      have e9 : us 9 = .slice B q q := hV 9 (by simp)
      have v9 := (frame_at2 (us := us) hl (show (txT[32]?).join = some 9 from rfl)).trans e9
      generalize frame txT a0 us = fr at *
      exact call_ok (f := 19) (args := #[.slice B q q, .int .i64 16, .string ⟨#[58]⟩]) (by go_simp) ((JC.out w' hG).mono fun e w'' h => ⟨_, h.1, hG.below h.2, h.2, rfl⟩)
    · refine step_plain [4, 10] (by kernel_rfl) rfl fun us w' hG hV => ?_
      have e4 : us 4 = .string SB := hV 4 (by simp)
      have v4 := (frame_at2 (us := us) hl (show (txT[27]?).join = some 4 from rfl)).trans e4
      have e10 : us 10 = .string SC := hV 10 (by simp)
      have v10 := (frame_at2 (us := us) hl (show (txT[33]?).join = some 10 from rfl)).trans e10
      have hq := BC.out
      generalize frame txT a0 us = fr at *
      exact val_ok (v := .string SD) (w' := w') (by go_simp) hG (Below.refl _ _) rfl
    · refine step_plain [11] (by kernel_rfl) rfl fun us w' hG hV => ?_
      have e11 : us 11 = .string SD := hV 11 (by simp)
      have v11 := (frame_at2 (us := us) hl (show (txT[34]?).join = some 11 from rfl)).trans e11
      generalize frame txT a0 us = fr at *
      exact val_ok (v := .string SD) (w' := w') (by go_simp) hG (Below.refl _ _) rfl
    · intro us w' hG hV
      have eL : us 12 = .string SD := hV 12 (by decide)
      subst ha0
      simp only [frame, txT, fill]
      rw [eL]
      go_wp2_with fail
      go_ret
      exact ⟨rfl, HB4.out.trans (hG.mono HB4.out.size)⟩
theorem ctext_any (s : Bool) (b : List Int) (w : World) (hg : Gb w) (hl : b.length = 16) (hy : ∀ x ∈ b, Byte x) :
    Calls Tryd.prog 11 #[.agg (adrV s b)] w (Ret w (.string (strOfNums (ctextL s b)))) := by
  cases s
  · exact ctext_four b w hg hl hy
  · exact ctext_six b w hg hl hy
end Go.Proofs.YtdoahlhkbhpgpaaDoor.adC

namespace Go.Proofs.YtdoahlhkbhpgpaaDoor.adC
open Go.ChangeShapes Go.WideShapes Go.ChangeAt Go.RowKit
open Go.Proofs.YtdoahlhkbhpgpaaDoor.memC Go.Proofs.YtdoahlhkbhpgpaaDoor.genC Go.Proofs.YtdoahlhkbhpgpaaDoor.butC Go.Proofs.YtdoahlhkbhpgpaaDoor.freeC Go.Proofs.YtdoahlhkbhpgpaaDoor.txC
open Go.Proofs.YtdoahlhkbhpgpaaDoor.wpartC (Part PartAt Parts parts3 nsum catL)
open Go.Proofs.YtdoahlhkbhpgpaaDoor.wconC (concat_any)
set_option linter.unusedVariables false
/-- the groups of a text, as the program reads them -/
def psxL (xs : List Int) : Option (List Int) :=
  match cgrL (cutF xs), cgrL (cutB xs) with
  | some a, some b => if a.length + b.length ≤ 8 ∧ cutS xs = decide (a.length + b.length < 8) then some (a ++ (zs (8 - (a.length + b.length)) ++ b)) else none
  | _, _ => none
theorem cgrL_ok {xs gs : List Int} (h : cgrL xs = some gs) : (∀ x ∈ gs, W16 x) ∧ gs.length ≤ 9 := by
  unfold cgrL at h
  split at h
  · obtain rfl := Option.some.inj h; simp
  · obtain ⟨h1, h2⟩ := gacc_ok _ _ _ h (by simp)
    have h3 := spn_len 58 8 xs
    refine ⟨h1, ?_⟩
    simp at h2; omega
theorem nums_made (w : World) (q : Nat) : Nums .u16 (w.alloc (.cells (madeCells #[.int .u16 0] q) 46)) (w.alloc (.cells (madeCells #[.int .u16 0] q) 46)).heap.size (some ⟨w.heap.size, 0, none⟩) q (zs q) := by
  refine ⟨zs_len q, fun _ => ⟨_, 0, rfl, by rw [alloc_size]; exact Nat.lt_succ_self _, fun i hi => ?_⟩⟩
  rw [cell_of_row _ w.heap.size (0 + i) _ _ (0, 0) (heap_alloc_new w _), Nat.zero_add]
  simp [madeCells, zs, hi, List.getD_eq_getElem?_getD, Nat.mod_one]
theorem part_of {w w' : World} {B : Nat} {A : Option Addr} {n c : Nat} {gs : List Int} (O : Own .u16 46 w B (.slice A n c) gs) (hb : Below w.heap.size w w') (hy : ∀ x ∈ gs, W16 x) (h1 : n ≤ c) (h2 : c ≤ maxLen) (hn : n ≤ 100) : PartAt w' w'.heap.size ⟨A, n, c, gs⟩ :=
  ⟨(O.nums.below hb).more hb.size, by show n ≤ 10000; omega, hy, h1, by simp only [maxLen] at h2; show c ≤ 9223372036854775807; omega⟩
set_option maxRecDepth 100000 in
set_option maxHeartbeats 4000000 in
theorem psix_any (xs : List Int) (w : World) (hg : Gb w) (hy : ∀ x ∈ xs, Byte x) (hn : xs.length ≤ 9000) :
    Calls Tryd.prog 15 #[.string (strOfNums xs)] w (PfRet w ((psxL xs).map fun gs => (true, sixB gs))) := by
  have hzv := zeroAdr
  have Z0 := Lib.hid z_info; have Z1 := Lib.hid z_one; have Z2 := Lib.hid built_zero
  have HB0 := Lib.hid (show Below w.heap.size w (w.alloc (.cells zAdr 24)) from alloc_below _ _)
  have HR0 := Lib.hid (show (w.alloc (.cells zAdr 24)).heap[w.heap.size]? = some (.cells zAdr 24 (0, 0)) from heap_alloc_new w _)
  have HG0 := Lib.hid (hg.below HB0.out)
  have CU := Lib.hid (cut_any xs (w.alloc (.cells zAdr 24)) HG0.out hy (by omega))
  have hF : ∀ x ∈ cutF xs, Byte x := by
    unfold cutF; split
    · exact fun x hx => hy x (List.mem_of_mem_take hx)
    · exact hy
  have hB : ∀ x ∈ cutB xs, Byte x := by
    unfold cutB; split
    · exact fun x hx => hy x (List.mem_of_mem_drop hx)
    · simp
  have lF : (cutF xs).length ≤ 9000 := by
    unfold cutF; split
    · rw [List.length_take]; omega
    · exact hn
  have lB : (cutB xs).length ≤ 9000 := by
    unfold cutB; split
    · rw [List.length_drop]; omega
    · simp
  have P1 := Lib.hid (fun w' (h : Gb w') => pgroups_any (cutF xs) w' h hF lF)
  have P2 := Lib.hid (fun w' (h : Gb w') => pgroups_any (cutB xs) w' h hB lB)
  obtain ⟨R, hR⟩ : ∃ R, R = psxL xs := ⟨_, rfl⟩
  rw [← hR]
  unfold psxL at hR
  have K1 := Lib.hid (fun gs (h : cgrL (cutF xs) = some gs) => cgrL_ok h)
  have K2 := Lib.hid (fun gs (h : cgrL (cutB xs) = some gs) => cgrL_ok h)
  generalize cgrL (cutF xs) = oa at *
  generalize cgrL (cutB xs) = ob at *
  generalize strOfNums (cutF xs) = SF at *
  generalize strOfNums (cutB xs) = SB at *
  generalize cutS xs = s at *
  generalize strOfNums xs = S0 at *
  generalize hZ : zAdr = Z at *
  have HZ := Lib.hid hZ
  clear hy hg hF hB lF lB hZ
  cases oa with
  | none =>
    have HN := Lib.hid (show R = none from hR)
    clear hR
    cases ob with
    | none =>
      go_enter Tryd.func15, Tryd.ntmps15
      go_upto_region 2 with (first
        | (go_at_call 22; (with_reducible refine CU.out.mono ?_); rintro e w1 ⟨rfl, B1⟩))
      have HB1 := Lib.hid (HB0.out.trans (B1.mono HB0.out.size))
      have HR1 := Lib.hid (show w1.heap[w.heap.size]? = some (.cells Z 24 (0, 0)) by rw [B1.block _ (lt_of_row HR0.out)]; exact HR0.out)
      have HG1 := Lib.hid (HG0.out.below B1)
      have C1 := Lib.hid (P1.out w1 HG1.out)
      clear B1
      go_upto_region 3 with (first
        | (go_at_call 23; (with_reducible refine C1.out.mono ?_); rintro e w2 ⟨rfl, B2⟩))
      have HB2 := Lib.hid (HB1.out.trans (B2.mono HB1.out.size))
      have HR2 := Lib.hid (show w2.heap[w.heap.size]? = some (.cells Z 24 (0, 0)) by rw [B2.block _ (lt_of_row HR1.out)]; exact HR1.out)
      have C2 := Lib.hid (P2.out w2 (HG1.out.below B2))
      clear B2
      go_upto_region 4 with (first
        | (go_at_call 23; (with_reducible refine C2.out.mono ?_); rintro e w3 ⟨rfl, B3⟩))
      have HB3 := Lib.hid (HB2.out.trans (B3.mono HB2.out.size))
      have HB23 := Lib.hid B3
      have HR3 := Lib.hid (show w3.heap[w.heap.size]? = some (.cells Z 24 (0, 0)) by rw [B3.block _ (lt_of_row HR2.out)]; exact HR2.out)
      clear B3
      go_wp2_with (first
        | (refine wpList_zero rfl 24 rfl Z Z2.out ?_)
        | (refine wpList_store_row rfl 24 (.tmp 2) (.tmp 50) rfl w.heap.size Z rfl rfl _ _ HR3.out Z0.out rfl Z1.out ?_))
      refine bodyPost_ret (v := .tuple #[.agg Z, .bool false]) (results_cell_tmp Tryd.results15 _ _ w.heap.size _ _ _ _ _ (by rfl) (setRow_heap _ _ _ _ _ _ HR3.out) Tryd.underlying24 rfl Z0.out (by rfl)) rfl ?_
      rw [HN.out]
      exact ⟨by rw [← HZ.out]; rfl, HB3.out.trans ⟨rfl, rfl, rfl, by simp, fun z hz => setRow_other _ _ _ _ (by omega)⟩⟩
    | some b =>
      go_enter Tryd.func15, Tryd.ntmps15
      go_upto_region 2 with (first
        | (go_at_call 22; (with_reducible refine CU.out.mono ?_); rintro e w1 ⟨rfl, B1⟩))
      have HB1 := Lib.hid (HB0.out.trans (B1.mono HB0.out.size))
      have HR1 := Lib.hid (show w1.heap[w.heap.size]? = some (.cells Z 24 (0, 0)) by rw [B1.block _ (lt_of_row HR0.out)]; exact HR0.out)
      have HG1 := Lib.hid (HG0.out.below B1)
      have C1 := Lib.hid (P1.out w1 HG1.out)
      clear B1
      go_upto_region 3 with (first
        | (go_at_call 23; (with_reducible refine C1.out.mono ?_); rintro e w2 ⟨rfl, B2⟩))
      have HB2 := Lib.hid (HB1.out.trans (B2.mono HB1.out.size))
      have HR2 := Lib.hid (show w2.heap[w.heap.size]? = some (.cells Z 24 (0, 0)) by rw [B2.block _ (lt_of_row HR1.out)]; exact HR1.out)
      have C2 := Lib.hid (P2.out w2 (HG1.out.below B2))
      clear B2
      go_upto_region 4 with (first
        | (go_at_call 23; (with_reducible refine C2.out.mono ?_); rintro e w3 ⟨A2, n2, c2, rfl, hl2, hc2, hm2, O2, B3⟩))
      have HO2 := Lib.hid O2
      have HL2 := Lib.hid hl2
      have HC2 := Lib.hid hc2
      have HM2 := Lib.hid hm2
      have hn2 : n2 ≤ 9 := by rw [← hl2]; exact (K2.out _ rfl).2
      clear O2 hl2 hc2 hm2
      have HB3 := Lib.hid (HB2.out.trans (B3.mono HB2.out.size))
      have HB23 := Lib.hid B3
      have HR3 := Lib.hid (show w3.heap[w.heap.size]? = some (.cells Z 24 (0, 0)) by rw [B3.block _ (lt_of_row HR2.out)]; exact HR2.out)
      clear B3
      go_wp2_with (first
        | (refine wpList_zero rfl 24 rfl Z Z2.out ?_)
        | (refine wpList_store_row rfl 24 (.tmp 2) (.tmp 50) rfl w.heap.size Z rfl rfl _ _ HR3.out Z0.out rfl Z1.out ?_))
      refine bodyPost_ret (v := .tuple #[.agg Z, .bool false]) (results_cell_tmp Tryd.results15 _ _ w.heap.size _ _ _ _ _ (by rfl) (setRow_heap _ _ _ _ _ _ HR3.out) Tryd.underlying24 rfl Z0.out (by rfl)) rfl ?_
      rw [HN.out]
      exact ⟨by rw [← HZ.out]; rfl, HB3.out.trans ⟨rfl, rfl, rfl, by simp, fun z hz => setRow_other _ _ _ _ (by omega)⟩⟩
  | some a =>
    cases ob with
    | none =>
      have HN := Lib.hid (show R = none from hR)
      clear hR
      go_enter Tryd.func15, Tryd.ntmps15
      go_upto_region 2 with (first
        | (go_at_call 22; (with_reducible refine CU.out.mono ?_); rintro e w1 ⟨rfl, B1⟩))
      have HB1 := Lib.hid (HB0.out.trans (B1.mono HB0.out.size))
      have HR1 := Lib.hid (show w1.heap[w.heap.size]? = some (.cells Z 24 (0, 0)) by rw [B1.block _ (lt_of_row HR0.out)]; exact HR0.out)
      have HG1 := Lib.hid (HG0.out.below B1)
      have C1 := Lib.hid (P1.out w1 HG1.out)
      clear B1
      go_upto_region 3 with (first
        | (go_at_call 23; (with_reducible refine C1.out.mono ?_); rintro e w2 ⟨A1, n1, c1, rfl, hl1, hc1, hm1, O1, B2⟩))
      have HO1 := Lib.hid O1
      have HL1 := Lib.hid hl1
      have HC1 := Lib.hid hc1
      have HM1 := Lib.hid hm1
      have hn1 : n1 ≤ 9 := by rw [← hl1]; exact (K1.out _ rfl).2
      clear O1 hl1 hc1 hm1
      have HB2 := Lib.hid (HB1.out.trans (B2.mono HB1.out.size))
      have HR2 := Lib.hid (show w2.heap[w.heap.size]? = some (.cells Z 24 (0, 0)) by rw [B2.block _ (lt_of_row HR1.out)]; exact HR1.out)
      have C2 := Lib.hid (P2.out w2 (HG1.out.below B2))
      clear B2
      go_upto_region 4 with (first
        | (go_at_call 23; (with_reducible refine C2.out.mono ?_); rintro e w3 ⟨rfl, B3⟩))
      have HB3 := Lib.hid (HB2.out.trans (B3.mono HB2.out.size))
      have HB23 := Lib.hid B3
      have HR3 := Lib.hid (show w3.heap[w.heap.size]? = some (.cells Z 24 (0, 0)) by rw [B3.block _ (lt_of_row HR2.out)]; exact HR2.out)
      clear B3
      go_wp2_with (first
        | (refine wpList_zero rfl 24 rfl Z Z2.out ?_)
        | (refine wpList_store_row rfl 24 (.tmp 2) (.tmp 50) rfl w.heap.size Z rfl rfl _ _ HR3.out Z0.out rfl Z1.out ?_))
      refine bodyPost_ret (v := .tuple #[.agg Z, .bool false]) (results_cell_tmp Tryd.results15 _ _ w.heap.size _ _ _ _ _ (by rfl) (setRow_heap _ _ _ _ _ _ HR3.out) Tryd.underlying24 rfl Z0.out (by rfl)) rfl ?_
      rw [HN.out]
      exact ⟨by rw [← HZ.out]; rfl, HB3.out.trans ⟨rfl, rfl, rfl, by simp, fun z hz => setRow_other _ _ _ _ (by omega)⟩⟩
    | some b =>
      have HRR := Lib.hid (show R = if a.length + b.length ≤ 8 ∧ s = decide (a.length + b.length < 8) then some (a ++ (zs (8 - (a.length + b.length)) ++ b)) else none from hR)
      clear hR
      go_enter Tryd.func15, Tryd.ntmps15
      go_upto_region 2 with (first
        | (go_at_call 22; (with_reducible refine CU.out.mono ?_); rintro e w1 ⟨rfl, B1⟩))
      have HB1 := Lib.hid (HB0.out.trans (B1.mono HB0.out.size))
      have HR1 := Lib.hid (show w1.heap[w.heap.size]? = some (.cells Z 24 (0, 0)) by rw [B1.block _ (lt_of_row HR0.out)]; exact HR0.out)
      have HG1 := Lib.hid (HG0.out.below B1)
      have C1 := Lib.hid (P1.out w1 HG1.out)
      clear B1
      go_upto_region 3 with (first
        | (go_at_call 23; (with_reducible refine C1.out.mono ?_); rintro e w2 ⟨A1, n1, c1, rfl, hl1, hc1, hm1, O1, B2⟩))
      have HO1 := Lib.hid O1
      have HL1 := Lib.hid hl1
      have HC1 := Lib.hid hc1
      have HM1 := Lib.hid hm1
      have hn1 : n1 ≤ 9 := by rw [← hl1]; exact (K1.out _ rfl).2
      clear O1 hl1 hc1 hm1
      have HB2 := Lib.hid (HB1.out.trans (B2.mono HB1.out.size))
      have HR2 := Lib.hid (show w2.heap[w.heap.size]? = some (.cells Z 24 (0, 0)) by rw [B2.block _ (lt_of_row HR1.out)]; exact HR1.out)
      have C2 := Lib.hid (P2.out w2 (HG1.out.below B2))
      clear B2
      go_upto_region 4 with (first
        | (go_at_call 23; (with_reducible refine C2.out.mono ?_); rintro e w3 ⟨A2, n2, c2, rfl, hl2, hc2, hm2, O2, B3⟩))
      have HO2 := Lib.hid O2
      have HL2 := Lib.hid hl2
      have HC2 := Lib.hid hc2
      have HM2 := Lib.hid hm2
      have hn2 : n2 ≤ 9 := by rw [← hl2]; exact (K2.out _ rfl).2
      clear O2 hl2 hc2 hm2
      have HB3 := Lib.hid (HB2.out.trans (B3.mono HB2.out.size))
      have HB23 := Lib.hid B3
      have HR3 := Lib.hid (show w3.heap[w.heap.size]? = some (.cells Z 24 (0, 0)) by rw [B3.block _ (lt_of_row HR2.out)]; exact HR2.out)
      clear B3
      obtain ⟨z1, hz1⟩ : ∃ z : Int, z = 8 - (n1 : Int) := ⟨_, rfl⟩
      have e1 : (8 : Int) - (n1 : Int) = z1 := hz1.symm
      have hz1a : -1 ≤ z1 := by omega
      have hz1b : z1 ≤ 8 := by omega
      by_cases h8 : n1 + n2 ≤ 8
      · obtain ⟨q, hq⟩ : ∃ q, q = 8 - (n1 + n2) := ⟨_, rfl⟩
        have e2 : z1 - (n2 : Int) = (q : Int) := by omega
        have hq8 : q ≤ 8 := by omega
        have h0 : ¬ (q : Int) < 0 := by omega
        have HQ := Lib.hid (show n1 + q + n2 = 8 by omega)
        by_cases hs : s = decide (n1 + n2 < 8)
        · have HN := Lib.hid (show R = some (a ++ (zs q ++ b)) by
            rw [HRR.out, HL1.out, HL2.out, if_pos ⟨h8, hs⟩, hq])
          have hsq : s = decide ((0 : Int) < (q : Int)) := by rw [hs]; congr 1; exact propext (by omega)
          have hmk := fun w' => run_make_row' (P := Tryd.prog) 41 46 (.int .u16 0) 2 Tryd.underlying41 word_inf rfl .i64 .i64 q (by omega) (by omega) w'
          have PA1 := part_of HO1.out HB23.out (K1.out _ rfl).1 HC1.out HM1.out (by omega)
          have PA2 := part_of HO2.out (Below.refl _ _) (K2.out _ rfl).1 HC2.out HM2.out (by omega)
          have PQ : PartAt (w3.alloc (.cells (madeCells #[.int .u16 0] q) 46)) (w3.alloc (.cells (madeCells #[.int .u16 0] q) 46)).heap.size ⟨some ⟨w3.heap.size, 0, none⟩, q, q, zs q⟩ :=
            ⟨nums_made w3 q, by show q ≤ 10000; omega, fun x hx => by rw [List.eq_of_mem_replicate hx]; exact ⟨Int.le_refl _, by decide⟩, Nat.le_refl _, by show q ≤ 9223372036854775807; omega⟩
          have PP := parts3 (PA1.alloc (.cells (madeCells #[.int .u16 0] q) 46)) PQ (PA2.alloc (.cells (madeCells #[.int .u16 0] q) 46)) 41
          rw [show (w3.alloc (.cells (madeCells #[.int .u16 0] q) 46)).heap.size = w3.heap.size + 1 from alloc_size _ _] at PP
          have HCC := Lib.hid (concat_any _ 3 3 8 _ _ PP (by decide) rfl (by show n1 + (q + (n2 + 0)) = 8; omega) (by decide) (by decide))
          have HBA := Lib.hid (show Below w3.heap.size w3 ((w3.alloc (.cells (madeCells #[.int .u16 0] q) 46)).alloc (.cells #[.slice A1 n1 c1, .slice (some ⟨w3.heap.size, 0, none⟩) q q, .slice A2 n2 c2] 41)) from ((Below.refl _ _).alloc (Nat.le_refl _) _).alloc (by simp) _)
          have HWS := Lib.hid (show ∀ x ∈ a ++ (zs q ++ b), W16 x from fun x hx => by
            rcases List.mem_append.1 hx with h | h
            · exact (K1.out _ rfl).1 x h
            · rcases List.mem_append.1 h with h | h
              · rw [List.eq_of_mem_replicate h]; exact ⟨Int.le_refl _, by decide⟩
              · exact (K2.out _ rfl).1 x h)
          have HCT := Lib.hid (show catL [⟨A1, n1, c1, a⟩, ⟨some ⟨w3.heap.size, 0, none⟩, q, q, zs q⟩, ⟨A2, n2, c2, b⟩] = a ++ (zs q ++ b) by simp [catL])
          rw [HCT.out] at HCC
          have HUT := Lib.hid (And.intro (adr_info true (sixB_len (a ++ (zs q ++ b)))) (And.intro (z_size true (sixB_len (a ++ (zs q ++ b)))) (adrV_one true (sixB (a ++ (zs q ++ b))))))
          rw [HZ.out] at HUT
          generalize a ++ (zs q ++ b) = gs at *
          generalize madeCells #[Value.int .u16 0] q = M at *
          clear hq PA1 PA2 PQ PP hz1 h8 hs
          subst hsq
          by_cases hq0 : (0 : Int) < (q : Int)
          all_goals
            go_upto_region 7 with fail
            go_wp2_with (first
              | (go_at_call 25; (with_reducible refine HCC.out.mono ?_); rintro e w5 ⟨A5, c5, rfl, g1, g2, O5, B5⟩
                 have HX := Lib.hid (csix_any A5 8 c5 gs w5 O5.nums HWS.out (by decide) g1 (by simp only [maxLen] at g2; omega))
                 have HB5 := Lib.hid (HB3.out.trans ((HBA.out.trans (B5.mono HBA.out.size)).mono HB3.out.size))
                 have HR5 := Lib.hid (show w5.heap[w.heap.size]? = some (.cells Z 24 (0, 0)) by
                   have hh := (HBA.out.trans (B5.mono HBA.out.size)).block _ (lt_of_row HR3.out)
                   rw [hh]; exact HR3.out)
                 clear g1 g2 O5 B5)
              | (go_at_call 24; (with_reducible refine HX.out.mono ?_); rintro e w6 ⟨rfl, B6⟩
                 have HB6 := Lib.hid (HB5.out.trans (B6.mono HB5.out.size))
                 have HR6 := Lib.hid (show w6.heap[w.heap.size]? = some (.cells Z 24 (0, 0)) by rw [B6.block _ (lt_of_row HR5.out)]; exact HR5.out)
                 clear B6)
              | (refine wpList_store_row rfl 24 (.tmp 2) (.tmp 57) rfl w.heap.size (adrV true (sixB gs)) rfl rfl _ _ HR6.out HUT.out.1 HUT.out.2.1 HUT.out.2.2 ?_))
            refine bodyPost_ret (v := .tuple #[.agg (adrV true (sixB gs)), .bool true]) (results_cell_tmp Tryd.results15 _ _ w.heap.size _ _ _ _ _ (by rfl) (setRow_heap _ _ _ _ _ _ HR6.out) Tryd.underlying24 rfl HUT.out.1 (by rfl)) rfl ?_
            rw [HN.out]
            exact ⟨rfl, HB6.out.trans ⟨rfl, rfl, rfl, by simp, fun z hz => setRow_other _ _ _ _ (by omega)⟩⟩
        · have HN := Lib.hid (show R = none by rw [HRR.out, HL1.out, HL2.out, if_neg (fun h => hs h.2)])
          have hsq : s = !decide ((0 : Int) < (q : Int)) := by
            have : decide ((0 : Int) < (q : Int)) = decide (n1 + n2 < 8) := by congr 1; exact propext (by omega)
            rw [this]
            cases s <;> cases h : decide (n1 + n2 < 8) <;> simp_all
          clear hq hz1 h8 hs
          subst hsq
          by_cases hq0 : (0 : Int) < (q : Int)
          all_goals
            go_wp2_with (first
              | (refine wpList_zero rfl 24 rfl Z Z2.out ?_)
              | (refine wpList_store_row rfl 24 (.tmp 2) (.tmp 50) rfl w.heap.size Z rfl rfl _ _ HR3.out Z0.out rfl Z1.out ?_))
            refine bodyPost_ret (v := .tuple #[.agg Z, .bool false]) (results_cell_tmp Tryd.results15 _ _ w.heap.size _ _ _ _ _ (by rfl) (setRow_heap _ _ _ _ _ _ HR3.out) Tryd.underlying24 rfl Z0.out (by rfl)) rfl ?_
            rw [HN.out]
            exact ⟨by rw [← HZ.out]; rfl, HB3.out.trans ⟨rfl, rfl, rfl, by simp, fun z hz => setRow_other _ _ _ _ (by omega)⟩⟩
      · have HN := Lib.hid (show R = none by rw [HRR.out, HL1.out, HL2.out, if_neg (fun h => h8 h.1)])
        obtain ⟨z2, hz2⟩ : ∃ z : Int, z = z1 - (n2 : Int) := ⟨_, rfl⟩
        have e2 : z1 - (n2 : Int) = z2 := hz2.symm
        have h0 : z2 < 0 := by omega
        clear hz1 hz2 h8
        go_wp2_with (first
          | (refine wpList_zero rfl 24 rfl Z Z2.out ?_)
          | (refine wpList_store_row rfl 24 (.tmp 2) (.tmp 50) rfl w.heap.size Z rfl rfl _ _ HR3.out Z0.out rfl Z1.out ?_))
        refine bodyPost_ret (v := .tuple #[.agg Z, .bool false]) (results_cell_tmp Tryd.results15 _ _ w.heap.size _ _ _ _ _ (by rfl) (setRow_heap _ _ _ _ _ _ HR3.out) Tryd.underlying24 rfl Z0.out (by rfl)) rfl ?_
        rw [HN.out]
        exact ⟨by rw [← HZ.out]; rfl, HB3.out.trans ⟨rfl, rfl, rfl, by simp, fun z hz => setRow_other _ _ _ _ (by omega)⟩⟩
end Go.Proofs.YtdoahlhkbhpgpaaDoor.adC

namespace Go.Proofs.YtdoahlhkbhpgpaaDoor.adC
open Go.ChangeShapes Go.WideShapes Go.ChangeAt Go.RowKit
open Go.Proofs.YtdoahlhkbhpgpaaDoor.memC Go.Proofs.YtdoahlhkbhpgpaaDoor.genC Go.Proofs.YtdoahlhkbhpgpaaDoor.butC Go.Proofs.YtdoahlhkbhpgpaaDoor.freeC Go.Proofs.YtdoahlhkbhpgpaaDoor.txC
set_option linter.unusedVariables false
theorem fourF_len : ∀ (ls : List (List Int)) (i : Nat) (b c : List Int), fourF ls i b = some c → c.length = b.length
  | [], i, b, c, h => by obtain rfl := Option.some.inj h; rfl
  | l :: r, i, b, c, h => by
    unfold fourF at h
    split at h
    · cases h
    · rw [fourF_len r _ _ _ h, List.length_set]
theorem fourG_len {ls : List (List Int)} {b : List Int} (h : fourG ls = some b) : b.length = 16 := by
  unfold fourG at h
  split at h
  · rw [fourF_len _ _ _ _ h, zs_len]
  · cases h
/-- the address of a text, as the program reads it -/
def cprsL (xs : List Int) : Option (Bool × List Int) :=
  match fourG (spn 46 4 xs) with
  | some b => some (false, b)
  | none => (psxL xs).map fun gs => (true, sixB gs)
set_option maxRecDepth 100000 in
set_option maxHeartbeats 4000000 in
theorem cparse_any (xs : List Int) (w : World) (hg : Gb w) (hy : ∀ x ∈ xs, Byte x) (hn : xs.length ≤ 9000) :
    Calls Tryd.prog 10 #[.string (strOfNums xs)] w (PrsRet w (cprsL xs)) := by
  have hzv := zeroAdr
  have Z0 := Lib.hid z_info; have Z1 := Lib.hid z_one; have Z2 := Lib.hid built_zero
  have HB0 := Lib.hid (show Below w.heap.size w (w.alloc (.cells zAdr 24)) from alloc_below _ _)
  have HR0 := Lib.hid (show (w.alloc (.cells zAdr 24)).heap[w.heap.size]? = some (.cells zAdr 24 (0, 0)) from heap_alloc_new w _)
  have HG0 := Lib.hid (hg.below HB0.out)
  have P4 := Lib.hid (pfour_any xs (w.alloc (.cells zAdr 24)) HG0.out hy hn)
  have P6 := Lib.hid (fun w' (h : Gb w') => psix_any xs w' h hy hn)
  have HT0 := Lib.hid (fun (s : Bool) (b : List Int) (h : b.length = 16) => And.intro (adr_info s h) (And.intro (z_size s h) (adrV_one s b)))
  unfold cprsL
  have L4 := Lib.hid (fun b (h : fourG (spn 46 4 xs) = some b) => fourG_len h)
  generalize fourG (spn 46 4 xs) = o4 at *
  generalize psxL xs = o6 at *
  generalize strOfNums xs = S0 at *
  have PF4 : Hid (∀ b, o4 = some b → Calls Tryd.prog 14 #[.string S0] (w.alloc (.cells zAdr 24)) fun e w' => e = .returned (.tuple #[.agg (adrV false b), .bool true]) ∧ Below (w.alloc (.cells zAdr 24)).heap.size (w.alloc (.cells zAdr 24)) w') := Lib.hid fun b h => by have := P4.out; rw [h] at this; exact this
  have PN4 : Hid (o4 = none → Calls Tryd.prog 14 #[.string S0] (w.alloc (.cells zAdr 24)) fun e w' => e = .returned (.tuple #[.agg zAdr, .bool false]) ∧ Below (w.alloc (.cells zAdr 24)).heap.size (w.alloc (.cells zAdr 24)) w') := Lib.hid fun h => by have := P4.out; rw [h] at this; exact this
  have PF6 : Hid (∀ gs, o6 = some gs → ∀ w', Gb w' → Calls Tryd.prog 15 #[.string S0] w' fun e w2 => e = .returned (.tuple #[.agg (adrV true (sixB gs)), .bool true]) ∧ Below w'.heap.size w' w2) := Lib.hid fun b h w' hg => by have := P6.out w' hg; rw [h] at this; exact this
  have PN6 : Hid (o6 = none → ∀ w', Gb w' → Calls Tryd.prog 15 #[.string S0] w' fun e w2 => e = .returned (.tuple #[.agg zAdr, .bool false]) ∧ Below w'.heap.size w' w2) := Lib.hid fun h w' hg => by have := P6.out w' hg; rw [h] at this; exact this
  generalize hZ : zAdr = Z at *
  have HZ := Lib.hid hZ
  clear hy hg hZ P4 P6
  cases o4 with
  | some b =>
    have C4 := Lib.hid (PF4.out b rfl)
    have HT := Lib.hid (HT0.out false b (L4.out b rfl))
    generalize hT : adrV false b = T at *
    have HTT := Lib.hid hT
    clear hT
    go_enter Tryd.func10, Tryd.ntmps10
    go_upto_region 2 with (first
      | (go_at_call 14; (with_reducible refine C4.out.mono ?_); rintro e w1 ⟨rfl, B1⟩
         have HBc1 := Lib.hid (HB0.out.trans (B1.mono HB0.out.size))
         have HRc1 := Lib.hid (show w1.heap[w.heap.size]? = some (.cells Z 24 (0, 0)) by rw [B1.block _ (lt_of_row HR0.out)]; exact HR0.out)
         have HNc1 := Lib.hid (show (w1.alloc (.cells Z 24)).heap[w1.heap.size]? = some (.cells Z 24 (0, 0)) from heap_alloc_new _ _)
         have HGc1 := Lib.hid (HG0.out.below B1)
         clear B1)
      | (refine wpList_store_row rfl 24 (.tmp 4) (.tmp 11) rfl w1.heap.size T rfl rfl _ _ HNc1.out HT.out.1 HT.out.2.1 HT.out.2.2 ?_))
    rw [World.setRow_alloc_new]
    have HB1 := Lib.hid (show Below w.heap.size w (w1.alloc (.cells T 24)) from HBc1.out.trans ((alloc_below _ _).mono HBc1.out.size))
    have HR1 := Lib.hid (show (w1.alloc (.cells T 24)).heap[w.heap.size]? = some (.cells Z 24 (0, 0)) by rw [(alloc_below _ _).block _ (lt_of_row HRc1.out)]; exact HRc1.out)
    have HW1 := Lib.hid (show (w1.alloc (.cells T 24)).heap[w1.heap.size]? = some (.cells T 24 (0, 0)) from heap_alloc_new _ _)
    have HG1 := Lib.hid (HGc1.out.below (alloc_below w1 (.cells T 24)))
    generalize w1.heap.size = g1 at *
    generalize w1.alloc (.cells T 24) = W1 at *
    go_wp2_with (first
      | (refine wpList_load_row rfl 24 (.tmp 4) rfl g1 rfl _ _ _ _ HW1.out Tryd.underlying24 rfl HT.out.1 ?_)
      | (refine wpList_store_row rfl 24 (.tmp 2) (.tmp 14) rfl w.heap.size T rfl rfl _ _ HR1.out HT.out.1 HT.out.2.1 HT.out.2.2 ?_))
    refine bodyPost_ret (v := .tuple #[.agg T, .int .i64 0]) (results_cell_tmp Tryd.results10 _ _ w.heap.size _ _ _ _ _ (by rfl) (setRow_heap _ _ _ _ _ _ HR1.out) Tryd.underlying24 rfl HT.out.1 (by rfl)) rfl ?_
    exact ⟨by rw [← HTT.out], HB1.out.trans ⟨rfl, rfl, rfl, by simp, fun z hz => setRow_other _ _ _ _ (by omega)⟩⟩
  | none =>
    have C4 := Lib.hid (PN4.out rfl)
    cases o6 with
    | some gs =>
      have HT := Lib.hid (HT0.out true (sixB gs) (sixB_len gs))
      have C6' := Lib.hid (PF6.out gs rfl)
      generalize hT : adrV true (sixB gs) = T at *
      have HTT := Lib.hid hT
      clear hT
      go_enter Tryd.func10, Tryd.ntmps10
      go_upto_region 2 with (first
        | (go_at_call 14; (with_reducible refine C4.out.mono ?_); rintro e w1 ⟨rfl, B1⟩
           have HBc1 := Lib.hid (HB0.out.trans (B1.mono HB0.out.size))
           have HRc1 := Lib.hid (show w1.heap[w.heap.size]? = some (.cells Z 24 (0, 0)) by rw [B1.block _ (lt_of_row HR0.out)]; exact HR0.out)
           have HNc1 := Lib.hid (show (w1.alloc (.cells Z 24)).heap[w1.heap.size]? = some (.cells Z 24 (0, 0)) from heap_alloc_new _ _)
           have HGc1 := Lib.hid (HG0.out.below B1)
           clear B1)
        | (refine wpList_store_row rfl 24 (.tmp 4) (.tmp 11) rfl w1.heap.size Z rfl rfl _ _ HNc1.out Z0.out rfl Z1.out ?_))
      rw [World.setRow_alloc_new]
      have HB1 := Lib.hid (show Below w.heap.size w (w1.alloc (.cells Z 24)) from HBc1.out.trans ((alloc_below _ _).mono HBc1.out.size))
      have HR1 := Lib.hid (show (w1.alloc (.cells Z 24)).heap[w.heap.size]? = some (.cells Z 24 (0, 0)) by rw [(alloc_below _ _).block _ (lt_of_row HRc1.out)]; exact HRc1.out)
      have HW1 := Lib.hid (show (w1.alloc (.cells Z 24)).heap[w1.heap.size]? = some (.cells Z 24 (0, 0)) from heap_alloc_new _ _)
      have HG1 := Lib.hid (HGc1.out.below (alloc_below w1 (.cells Z 24)))
      generalize w1.heap.size = g1 at *
      generalize w1.alloc (.cells Z 24) = W1 at *
      have C6 := Lib.hid (C6'.out W1 HG1.out)
      go_upto_region 5 with (first
        | (go_at_call 15; (with_reducible refine C6.out.mono ?_); rintro e w2 ⟨rfl, B1⟩
           have HBc2 := Lib.hid (HB1.out.trans (B1.mono HB1.out.size))
           have HRc2 := Lib.hid (show w2.heap[w.heap.size]? = some (.cells Z 24 (0, 0)) by rw [B1.block _ (lt_of_row HR1.out)]; exact HR1.out)
           have HNc2 := Lib.hid (show (w2.alloc (.cells Z 24)).heap[w2.heap.size]? = some (.cells Z 24 (0, 0)) from heap_alloc_new _ _)
           have HGc2 := Lib.hid (HG1.out.below B1)
           clear B1)
        | (refine wpList_store_row rfl 24 (.tmp 6) (.tmp 18) rfl w2.heap.size T rfl rfl _ _ HNc2.out HT.out.1 HT.out.2.1 HT.out.2.2 ?_))
      rw [World.setRow_alloc_new]
      have HB2 := Lib.hid (show Below w.heap.size w (w2.alloc (.cells T 24)) from HBc2.out.trans ((alloc_below _ _).mono HBc2.out.size))
      have HR2 := Lib.hid (show (w2.alloc (.cells T 24)).heap[w.heap.size]? = some (.cells Z 24 (0, 0)) by rw [(alloc_below _ _).block _ (lt_of_row HRc2.out)]; exact HRc2.out)
      have HW2 := Lib.hid (show (w2.alloc (.cells T 24)).heap[w2.heap.size]? = some (.cells T 24 (0, 0)) from heap_alloc_new _ _)
      have HG2 := Lib.hid (HGc2.out.below (alloc_below w2 (.cells T 24)))
      generalize w2.heap.size = g2 at *
      generalize w2.alloc (.cells T 24) = W2 at *
      go_wp2_with (first
        | (refine wpList_load_row rfl 24 (.tmp 6) rfl g2 rfl _ _ _ _ HW2.out Tryd.underlying24 rfl HT.out.1 ?_)
        | (refine wpList_store_row rfl 24 (.tmp 2) (.tmp 21) rfl w.heap.size T rfl rfl _ _ HR2.out HT.out.1 HT.out.2.1 HT.out.2.2 ?_))
      refine bodyPost_ret (v := .tuple #[.agg T, .int .i64 0]) (results_cell_tmp Tryd.results10 _ _ w.heap.size _ _ _ _ _ (by rfl) (setRow_heap _ _ _ _ _ _ HR2.out) Tryd.underlying24 rfl HT.out.1 (by rfl)) rfl ?_
      exact ⟨by rw [← HTT.out]; rfl, HB2.out.trans ⟨rfl, rfl, rfl, by simp, fun z hz => setRow_other _ _ _ _ (by omega)⟩⟩
    | none =>
      have C6' := Lib.hid (PN6.out rfl)
      go_enter Tryd.func10, Tryd.ntmps10
      go_upto_region 2 with (first
        | (go_at_call 14; (with_reducible refine C4.out.mono ?_); rintro e w1 ⟨rfl, B1⟩
           have HBc1 := Lib.hid (HB0.out.trans (B1.mono HB0.out.size))
           have HRc1 := Lib.hid (show w1.heap[w.heap.size]? = some (.cells Z 24 (0, 0)) by rw [B1.block _ (lt_of_row HR0.out)]; exact HR0.out)
           have HNc1 := Lib.hid (show (w1.alloc (.cells Z 24)).heap[w1.heap.size]? = some (.cells Z 24 (0, 0)) from heap_alloc_new _ _)
           have HGc1 := Lib.hid (HG0.out.below B1)
           clear B1)
        | (refine wpList_store_row rfl 24 (.tmp 4) (.tmp 11) rfl w1.heap.size Z rfl rfl _ _ HNc1.out Z0.out rfl Z1.out ?_))
      rw [World.setRow_alloc_new]
      have HB1 := Lib.hid (show Below w.heap.size w (w1.alloc (.cells Z 24)) from HBc1.out.trans ((alloc_below _ _).mono HBc1.out.size))
      have HR1 := Lib.hid (show (w1.alloc (.cells Z 24)).heap[w.heap.size]? = some (.cells Z 24 (0, 0)) by rw [(alloc_below _ _).block _ (lt_of_row HRc1.out)]; exact HRc1.out)
      have HW1 := Lib.hid (show (w1.alloc (.cells Z 24)).heap[w1.heap.size]? = some (.cells Z 24 (0, 0)) from heap_alloc_new _ _)
      have HG1 := Lib.hid (HGc1.out.below (alloc_below w1 (.cells Z 24)))
      generalize w1.heap.size = g1 at *
      generalize w1.alloc (.cells Z 24) = W1 at *
      have C6 := Lib.hid (C6'.out W1 HG1.out)
      go_upto_region 5 with (first
        | (go_at_call 15; (with_reducible refine C6.out.mono ?_); rintro e w2 ⟨rfl, B1⟩
           have HBc2 := Lib.hid (HB1.out.trans (B1.mono HB1.out.size))
           have HRc2 := Lib.hid (show w2.heap[w.heap.size]? = some (.cells Z 24 (0, 0)) by rw [B1.block _ (lt_of_row HR1.out)]; exact HR1.out)
           have HNc2 := Lib.hid (show (w2.alloc (.cells Z 24)).heap[w2.heap.size]? = some (.cells Z 24 (0, 0)) from heap_alloc_new _ _)
           have HGc2 := Lib.hid (HG1.out.below B1)
           clear B1)
        | (refine wpList_store_row rfl 24 (.tmp 6) (.tmp 18) rfl w2.heap.size Z rfl rfl _ _ HNc2.out Z0.out rfl Z1.out ?_))
      rw [World.setRow_alloc_new]
      have HB2 := Lib.hid (show Below w.heap.size w (w2.alloc (.cells Z 24)) from HBc2.out.trans ((alloc_below _ _).mono HBc2.out.size))
      have HR2 := Lib.hid (show (w2.alloc (.cells Z 24)).heap[w.heap.size]? = some (.cells Z 24 (0, 0)) by rw [(alloc_below _ _).block _ (lt_of_row HRc2.out)]; exact HRc2.out)
      have HW2 := Lib.hid (show (w2.alloc (.cells Z 24)).heap[w2.heap.size]? = some (.cells Z 24 (0, 0)) from heap_alloc_new _ _)
      have HG2 := Lib.hid (HGc2.out.below (alloc_below w2 (.cells Z 24)))
      generalize w2.heap.size = g2 at *
      generalize w2.alloc (.cells Z 24) = W2 at *
      go_wp2_with (first
        | (refine wpList_zero rfl 24 rfl Z Z2.out ?_)
        | (refine wpList_store_row rfl 24 (.tmp 2) (.tmp 22) rfl w.heap.size Z rfl rfl _ _ HR2.out Z0.out rfl Z1.out ?_))
      refine bodyPost_ret (v := .tuple #[.agg Z, .int .i64 3]) (results_cell_tmp Tryd.results10 _ _ w.heap.size _ _ _ _ _ (by rfl) (setRow_heap _ _ _ _ _ _ HR2.out) Tryd.underlying24 rfl Z0.out (by rfl)) rfl ?_
      exact ⟨by rw [← HZ.out]; rfl, HB2.out.trans ⟨rfl, rfl, rfl, by simp, fun z hz => setRow_other _ _ _ _ (by omega)⟩⟩
end Go.Proofs.YtdoahlhkbhpgpaaDoor.adC
