/-
  3 texts of a proof, joined.
-/
import Derived.Test.YtniimgbljhmcoaaDoorMg2
import Derived.Test.YtniimgbljhmcoaaDoorMg25
import Derived.Test.YtniimgbljhmcoaaDoorMg27
import Derived.Test.YtniimgbljhmcoaaDoorMg18
import Derived.Test.YtniimgbljhmcoaaDoorMg13
import Derived.Test.YtniimgbljhmcoaaDoorMg26

/-
  The header of a segment, read: the program's.
-/
namespace Go.Proofs.YtniimgbljhmcoaaDoor.sgC
open Go.ChangeShapes Go.WideShapes Go.ChangeAt Go.RowKit
open Go.Proofs.YtniimgbljhmcoaaDoor.memC Go.Proofs.YtniimgbljhmcoaaDoor.genC Go.Proofs.YtniimgbljhmcoaaDoor.butC Go.Proofs.YtniimgbljhmcoaaDoor.freeC Go.Proofs.YtniimgbljhmcoaaDoor.adC
open Go.Proofs.YtniimgbljhmcoaaDoor.octC (Fr Rd RdD stopped getZ)
open Go.Proofs.YtniimgbljhmcoaaDoor.opC (getZ_bound getD_byte0 zOpt zOpt_ok U32)
set_option linter.unusedVariables false
def NxS (w : World) (q B : Nat) (b : List Int) (v : Value) (e : Ending) (w' : World) : Prop := e = .returned v ∧ RdD w' q B b ∧ Fr (· = q) w w'
theorem octet_ok (q B : Nat) (bs : List Int) (w : World) (h : RdD w q B bs) (hl : 1 ≤ bs.length) (hm : bs.length ≤ 100000) (hy : ∀ x ∈ bs, Byte x) :
    Calls Tryd.prog 91 #[.pointer (some ⟨q, 0, none⟩)] w (NxS w q B (bs.drop 1) (.int .u8 (bs.getD 0 0))) := by
  have T := octC.num_okD q B bs 1 w h (by decide) (by decide) (by rw [show octC.fitN 1 = 1 by decide]; exact hl) hm hy
  unfold octC.NumD at T
  rw [show octC.fitN 1 = 1 by decide] at T
  rw [sxC.getZ1 hl] at T
  have hb := getD_byte0 hy 0
  unfold Byte at hb
  have W := Lib.hid (show IntKind.u8.wrap (bs.getD 0 0) = bs.getD 0 0 from IntWalk.u8_in _ (by omega))
  have T := Lib.hid T
  unfold NxS
  generalize bs.getD 0 0 = y at *
  clear hb h hl hm hy
  go_enter Tryd.func91, Tryd.ntmps91
  go_wp2_with (first
    | (go_at_call 97; refine T.out.mono ?_; rintro e w' ⟨rfl, R, G⟩
       have RR := Lib.hid R
       have GG := Lib.hid G
       clear R G))
  go_ret
  exact ⟨octC.ret_int W.out, RR.out, GG.out⟩
theorem short_ok (q B : Nat) (bs : List Int) (w : World) (h : RdD w q B bs) (hl : 2 ≤ bs.length) (hm : bs.length ≤ 100000) (hy : ∀ x ∈ bs, Byte x) :
    Calls Tryd.prog 89 #[.pointer (some ⟨q, 0, none⟩)] w (NxS w q B (bs.drop 2) (.int .u16 (getZ (bs.take 2)))) := by
  have T := octC.num_okD q B bs 2 w h (by decide) (by decide) (by rw [show octC.fitN 2 = 2 by decide]; exact hl) hm hy
  unfold octC.NumD at T
  rw [show octC.fitN 2 = 2 by decide] at T
  have hb := getZ_bound (b := bs.take 2) fun x hx => hy x (List.mem_of_mem_take hx)
  rw [show (bs.take 2).length = 2 by rw [List.length_take]; omega] at hb
  have W := Lib.hid (show IntKind.u16.wrap (getZ (bs.take 2)) = getZ (bs.take 2) from IntWalk.u16_in _ (by omega))
  have T := Lib.hid T
  unfold NxS
  generalize getZ (bs.take 2) = y at *
  clear hb h hl hm hy
  go_enter Tryd.func89, Tryd.ntmps89
  go_wp2_with (first
    | (go_at_call 97; refine T.out.mono ?_; rintro e w' ⟨rfl, R, G⟩
       have RR := Lib.hid R
       have GG := Lib.hid G
       clear R G))
  go_ret
  exact ⟨octC.ret_int W.out, RR.out, GG.out⟩
theorem number_ok (q B : Nat) (bs : List Int) (w : World) (h : RdD w q B bs) (hl : 4 ≤ bs.length) (hm : bs.length ≤ 100000) (hy : ∀ x ∈ bs, Byte x) :
    Calls Tryd.prog 90 #[.pointer (some ⟨q, 0, none⟩)] w (NxS w q B (bs.drop 4) (.int .u32 (getZ (bs.take 4)))) := by
  have T := octC.num_okD q B bs 4 w h (by decide) (by decide) (by rw [show octC.fitN 4 = 4 by decide]; exact hl) hm hy
  unfold octC.NumD at T
  rw [show octC.fitN 4 = 4 by decide] at T
  have hb := getZ_bound (b := bs.take 4) fun x hx => hy x (List.mem_of_mem_take hx)
  rw [show (bs.take 4).length = 4 by rw [List.length_take]; omega] at hb
  have W := Lib.hid (show IntKind.u32.wrap (getZ (bs.take 4)) = getZ (bs.take 4) from IntWalk.u32_in _ (by omega))
  have T := Lib.hid T
  unfold NxS
  generalize getZ (bs.take 4) = y at *
  clear hb h hl hm hy
  go_enter Tryd.func90, Tryd.ntmps90
  go_wp2_with (first
    | (go_at_call 97; refine T.out.mono ?_; rintro e w' ⟨rfl, R, G⟩
       have RR := Lib.hid R
       have GG := Lib.hid G
       clear R G))
  go_ret
  exact ⟨octC.ret_int W.out, RR.out, GG.out⟩
/-- the number at place k, of s bytes -/
def at_ (bs : List Int) (k s : Nat) : Int := getZ ((bs.drop k).take s)
theorem at_bd {bs : List Int} (hy : ∀ x ∈ bs, Byte x) {k s : Nat} (h : k + s ≤ bs.length) : 0 ≤ at_ bs k s ∧ at_ bs k s < 256 ^ s := by
  have hb := getZ_bound (b := (bs.drop k).take s) fun x hx => hy x (List.mem_of_mem_drop (List.mem_of_mem_take hx))
  rwa [show ((bs.drop k).take s).length = s by rw [List.length_take, List.length_drop]; omega] at hb
def hdS (hd : List Int) : Sg := ⟨at_ hd 0 2, at_ hd 2 2, at_ hd 4 4, at_ hd 8 4, hd.getD 13 0 % 64, at_ hd 14 2, at_ hd 18 2, zOpt⟩
def hdN (hd : List Int) : Int := 4 * (hd.getD 12 0 / 16)
theorem hdS_ok {hd : List Int} (hy : ∀ x ∈ hd, Byte x) (hl : 20 ≤ hd.length) : (hdS hd).Ok := by
  have a1 := at_bd hy (k := 0) (s := 2) (by omega)
  have a2 := at_bd hy (k := 2) (s := 2) (by omega)
  have a3 := at_bd hy (k := 4) (s := 4) (by omega)
  have a4 := at_bd hy (k := 8) (s := 4) (by omega)
  have a5 := at_bd hy (k := 14) (s := 2) (by omega)
  have a6 := at_bd hy (k := 18) (s := 2) (by omega)
  have a7 := getD_byte0 hy 13
  unfold Byte at a7
  refine ⟨?_, ?_, ?_, ?_, ?_, ?_, ?_, zOpt_ok⟩ <;> unfold hdS <;> simp only [U16, U32, Byte] <;> omega
/-- a header that is being read -/
structure Hs (w0 w : World) (q B : Nat) (b : List Int) (s : Sg) : Prop where
  rd : RdD w q B b
  res : SegAt w w0.heap.size zSg none 0 0 none 0 0
  row : SegAt w (w0.heap.size + 1) s none 0 0 none 0 0
  fr : Fr (· = q) w0 w
  lt : q < w0.heap.size
theorem Hs.next {w0 w w' : World} {q B : Nat} {b b' : List Int} {s : Sg} (h : Hs w0 w q B b s) (R : RdD w' q B b') (F : Fr (· = q) w w') : Hs w0 w' q B b' s := by
  have hq := h.lt
  refine ⟨R, ?_, ?_, h.fr.trans F, hq⟩
  · unfold SegAt; rw [F.block _ h.res.lt (by show ¬ w0.heap.size = q; omega)]; exact h.res
  · unfold SegAt; rw [F.block _ h.row.lt (by show ¬ w0.heap.size + 1 = q; omega)]; exact h.row
theorem Hs.set_ {w0 w : World} {q B : Nat} {b : List Int} {s s' : Sg} (h : Hs w0 w q B b s) (j : Nat) (v : Value) (e : (segV s none 0 0 none 0 0).setIfInBounds j v = segV s' none 0 0 none 0 0) : Hs w0 (w.setCell ⟨w0.heap.size + 1, j, none⟩ v) q B b s' := by
  have hq := h.lt
  have hB := h.rd.le
  refine ⟨h.rd.keep (by simp [World.setCell]) (Below.heap_setCell _ _ _ _ (by show q ≠ w0.heap.size + 1; omega)) (fun k hk => Below.heap_setCell _ _ _ _ (by show k ≠ w0.heap.size + 1; omega)), h.res.other (by show w0.heap.size + 1 ≠ w0.heap.size; omega) v, h.row.set_ j v e, ?_, hq⟩
  refine ⟨h.fr.os, h.fr.tape, h.fr.output, by simpa [World.setCell] using h.fr.size, fun k hk hn => ?_⟩
  rw [Below.heap_setCell _ _ _ _ (show k ≠ w0.heap.size + 1 by omega)]
  exact h.fr.block k hk hn
set_option maxRecDepth 100000 in
set_option maxHeartbeats 4000000 in
theorem header_any (q B : Nat) (hd : List Int) (w : World) (hR : RdD w q B hd) (hl : hd.length = 20) (hy : ∀ x ∈ hd, Byte x) :
    Calls Tryd.prog 75 #[.pointer (some ⟨q, 0, none⟩)] w fun e w' => e = .returned (.tuple #[.agg (segV (hdS hd) none 0 0 none 0 0), .int .i64 (hdN hd)]) ∧ Fr (· = q) w w' := by
  have hzv := zeroSeg
  have e1 : (w.alloc (.cells (segV zSg none 0 0 none 0 0) 34)).heap.size = w.heap.size + 1 := alloc_size _ _
  obtain ⟨W, hW⟩ : ∃ W, W = (w.alloc (.cells (segV zSg none 0 0 none 0 0) 34)).alloc (.cells (segV zSg none 0 0 none 0 0) 34) := ⟨_, rfl⟩
  have BW : Below w.heap.size w W := by rw [hW]; exact ((Below.refl _ _).alloc (Nat.le_refl _) _).alloc (by simp) _
  have H0 := Lib.hid (show Hs w W q B hd zSg from ⟨hR.below BW, by unfold SegAt; rw [hW, Below.block (alloc_below _ _) _ (by rw [e1]; omega)]; exact heap_alloc_new w _, by unfold SegAt; rw [hW, ← e1]; exact heap_alloc_new _ _, Fr.below BW, hR.lt⟩)
  obtain ⟨b0, hb0⟩ : ∃ b, b = hd := ⟨_, rfl⟩
  rw [← hb0] at H0
  have l0 : b0.length = 20 := by rw [hb0]; exact hl
  have y0 : ∀ x ∈ b0, Byte x := by rw [hb0]; exact hy
  obtain ⟨b1, hb1⟩ : ∃ b, b = b0.drop 2 := ⟨_, rfl⟩
  have d1 : b1 = hd.drop 2 := by rw [hb1, hb0]
  have l1 : b1.length = 18 := by rw [hb1, List.length_drop, l0]
  have y1 : ∀ x ∈ b1, Byte x := fun x hx => y0 x (by rw [hb1] at hx; exact List.mem_of_mem_drop hx)
  obtain ⟨z0, hz0⟩ : ∃ z, z = at_ hd 0 2 := ⟨_, rfl⟩
  have C0 := Lib.hid (fun w' (R : RdD w' q B b0) => (show Calls Tryd.prog 89 #[.pointer (some ⟨q, 0, none⟩)] w' (NxS w' q B b1 (.int .u16 z0)) by
    have h := short_ok q B b0 w' R (by omega) (by omega) y0
    rw [← hb1, show getZ (b0.take 2) = z0 from (by rw [hz0]; unfold at_; rw [hb0]; rfl)] at h
    exact h))
  obtain ⟨b2, hb2⟩ : ∃ b, b = b1.drop 2 := ⟨_, rfl⟩
  have d2 : b2 = hd.drop 4 := by rw [hb2, d1, List.drop_drop]
  have l2 : b2.length = 16 := by rw [hb2, List.length_drop, l1]
  have y2 : ∀ x ∈ b2, Byte x := fun x hx => y1 x (by rw [hb2] at hx; exact List.mem_of_mem_drop hx)
  obtain ⟨z1, hz1⟩ : ∃ z, z = at_ hd 2 2 := ⟨_, rfl⟩
  have C1 := Lib.hid (fun w' (R : RdD w' q B b1) => (show Calls Tryd.prog 89 #[.pointer (some ⟨q, 0, none⟩)] w' (NxS w' q B b2 (.int .u16 z1)) by
    have h := short_ok q B b1 w' R (by omega) (by omega) y1
    rw [← hb2, show getZ (b1.take 2) = z1 from (by rw [hz1]; unfold at_; rw [d1])] at h
    exact h))
  obtain ⟨b3, hb3⟩ : ∃ b, b = b2.drop 4 := ⟨_, rfl⟩
  have d3 : b3 = hd.drop 8 := by rw [hb3, d2, List.drop_drop]
  have l3 : b3.length = 12 := by rw [hb3, List.length_drop, l2]
  have y3 : ∀ x ∈ b3, Byte x := fun x hx => y2 x (by rw [hb3] at hx; exact List.mem_of_mem_drop hx)
  obtain ⟨z2, hz2⟩ : ∃ z, z = at_ hd 4 4 := ⟨_, rfl⟩
  have C2 := Lib.hid (fun w' (R : RdD w' q B b2) => (show Calls Tryd.prog 90 #[.pointer (some ⟨q, 0, none⟩)] w' (NxS w' q B b3 (.int .u32 z2)) by
    have h := number_ok q B b2 w' R (by omega) (by omega) y2
    rw [← hb3, show getZ (b2.take 4) = z2 from (by rw [hz2]; unfold at_; rw [d2])] at h
    exact h))
  obtain ⟨b4, hb4⟩ : ∃ b, b = b3.drop 4 := ⟨_, rfl⟩
  have d4 : b4 = hd.drop 12 := by rw [hb4, d3, List.drop_drop]
  have l4 : b4.length = 8 := by rw [hb4, List.length_drop, l3]
  have y4 : ∀ x ∈ b4, Byte x := fun x hx => y3 x (by rw [hb4] at hx; exact List.mem_of_mem_drop hx)
  obtain ⟨z3, hz3⟩ : ∃ z, z = at_ hd 8 4 := ⟨_, rfl⟩
  have C3 := Lib.hid (fun w' (R : RdD w' q B b3) => (show Calls Tryd.prog 90 #[.pointer (some ⟨q, 0, none⟩)] w' (NxS w' q B b4 (.int .u32 z3)) by
    have h := number_ok q B b3 w' R (by omega) (by omega) y3
    rw [← hb4, show getZ (b3.take 4) = z3 from (by rw [hz3]; unfold at_; rw [d3])] at h
    exact h))
  obtain ⟨b5, hb5⟩ : ∃ b, b = b4.drop 1 := ⟨_, rfl⟩
  have d5 : b5 = hd.drop 13 := by rw [hb5, d4, List.drop_drop]
  have l5 : b5.length = 7 := by rw [hb5, List.length_drop, l4]
  have y5 : ∀ x ∈ b5, Byte x := fun x hx => y4 x (by rw [hb5] at hx; exact List.mem_of_mem_drop hx)
  obtain ⟨z4, hz4⟩ : ∃ z, z = hd.getD 12 0 := ⟨_, rfl⟩
  have C4 := Lib.hid (fun w' (R : RdD w' q B b4) => (show Calls Tryd.prog 91 #[.pointer (some ⟨q, 0, none⟩)] w' (NxS w' q B b5 (.int .u8 z4)) by
    have h := octet_ok q B b4 w' R (by omega) (by omega) y4
    rw [← hb5, show b4.getD 0 0 = z4 from (by rw [hz4]; rw [d4]; simp [List.getD_eq_getElem?_getD, List.getElem?_drop])] at h
    exact h))
  obtain ⟨b6, hb6⟩ : ∃ b, b = b5.drop 1 := ⟨_, rfl⟩
  have d6 : b6 = hd.drop 14 := by rw [hb6, d5, List.drop_drop]
  have l6 : b6.length = 6 := by rw [hb6, List.length_drop, l5]
  have y6 : ∀ x ∈ b6, Byte x := fun x hx => y5 x (by rw [hb6] at hx; exact List.mem_of_mem_drop hx)
  obtain ⟨z5, hz5⟩ : ∃ z, z = hd.getD 13 0 := ⟨_, rfl⟩
  have C5 := Lib.hid (fun w' (R : RdD w' q B b5) => (show Calls Tryd.prog 91 #[.pointer (some ⟨q, 0, none⟩)] w' (NxS w' q B b6 (.int .u8 z5)) by
    have h := octet_ok q B b5 w' R (by omega) (by omega) y5
    rw [← hb6, show b5.getD 0 0 = z5 from (by rw [hz5]; rw [d5]; simp [List.getD_eq_getElem?_getD, List.getElem?_drop])] at h
    exact h))
  obtain ⟨b7, hb7⟩ : ∃ b, b = b6.drop 2 := ⟨_, rfl⟩
  have d7 : b7 = hd.drop 16 := by rw [hb7, d6, List.drop_drop]
  have l7 : b7.length = 4 := by rw [hb7, List.length_drop, l6]
  have y7 : ∀ x ∈ b7, Byte x := fun x hx => y6 x (by rw [hb7] at hx; exact List.mem_of_mem_drop hx)
  obtain ⟨z6, hz6⟩ : ∃ z, z = at_ hd 14 2 := ⟨_, rfl⟩
  have C6 := Lib.hid (fun w' (R : RdD w' q B b6) => (show Calls Tryd.prog 89 #[.pointer (some ⟨q, 0, none⟩)] w' (NxS w' q B b7 (.int .u16 z6)) by
    have h := short_ok q B b6 w' R (by omega) (by omega) y6
    rw [← hb7, show getZ (b6.take 2) = z6 from (by rw [hz6]; unfold at_; rw [d6])] at h
    exact h))
  obtain ⟨b8, hb8⟩ : ∃ b, b = b7.drop 2 := ⟨_, rfl⟩
  have d8 : b8 = hd.drop 18 := by rw [hb8, d7, List.drop_drop]
  have l8 : b8.length = 2 := by rw [hb8, List.length_drop, l7]
  have y8 : ∀ x ∈ b8, Byte x := fun x hx => y7 x (by rw [hb8] at hx; exact List.mem_of_mem_drop hx)
  obtain ⟨z7, hz7⟩ : ∃ z, z = at_ hd 16 2 := ⟨_, rfl⟩
  have C7 := Lib.hid (fun w' (R : RdD w' q B b7) => (show Calls Tryd.prog 89 #[.pointer (some ⟨q, 0, none⟩)] w' (NxS w' q B b8 (.int .u16 z7)) by
    have h := short_ok q B b7 w' R (by omega) (by omega) y7
    rw [← hb8, show getZ (b7.take 2) = z7 from (by rw [hz7]; unfold at_; rw [d7])] at h
    exact h))
  obtain ⟨b9, hb9⟩ : ∃ b, b = b8.drop 2 := ⟨_, rfl⟩
  have d9 : b9 = hd.drop 20 := by rw [hb9, d8, List.drop_drop]
  have l9 : b9.length = 0 := by rw [hb9, List.length_drop, l8]
  have y9 : ∀ x ∈ b9, Byte x := fun x hx => y8 x (by rw [hb9] at hx; exact List.mem_of_mem_drop hx)
  obtain ⟨z8, hz8⟩ : ∃ z, z = at_ hd 18 2 := ⟨_, rfl⟩
  have C8 := Lib.hid (fun w' (R : RdD w' q B b8) => (show Calls Tryd.prog 89 #[.pointer (some ⟨q, 0, none⟩)] w' (NxS w' q B b9 (.int .u16 z8)) by
    have h := short_ok q B b8 w' R (by omega) (by omega) y8
    rw [← hb9, show getZ (b8.take 2) = z8 from (by rw [hz8]; unfold at_; rw [d8])] at h
    exact h))
  have g4 := getD_byte0 hy 12
  have g5 := getD_byte0 hy 13
  rw [← hz4] at g4
  rw [← hz5] at g5
  have A5 := and_63 g5
  unfold Byte at g4
  have HF := Lib.hid (show hdS hd = ⟨z0, z1, z2, z3, bits .and .u8 z5 63, z6, z8, zOpt⟩ by rw [A5, hz0, hz1, hz2, hz3, hz5, hz6, hz8]; rfl)
  have HN := Lib.hid (show hdN hd = 4 * (z4 / 16) by rw [hz4]; rfl)
  have w4 : IntKind.i64.wrap (z4 / 16) = z4 / 16 := IntWalk.i64_in _ (by omega)
  have w5 : IntKind.i64.wrap (4 * (z4 / 16)) = 4 * (z4 / 16) := IntWalk.i64_in _ (by omega)
  obtain ⟨CE, hCE⟩ : ∃ C, C = segV (⟨z0, z1, z2, z3, bits .and .u8 z5 63, z6, z8, zOpt⟩ : Sg) none 0 0 none 0 0 := ⟨_, rfl⟩
  rw [HF.out, HN.out, ← hCE]
  have EC := Lib.hid hCE
  clear hCE
  unfold NxS at C0 C1 C2 C3 C4 C5 C6 C7 C8
  clear BW hR hl hy e1 A5 g5 hb0 l0 y0 hb1 l1 y1 hb2 l2 y2 hb3 l3 y3 hb4 l4 y4 hb5 l5 y5 hb6 l6 y6 hb7 l7 y7 hb8 l8 y8 hb9 l9 y9 d1 d2 d3 d4 d5 d6 d7 d8 d9 hz0 hz1 hz2 hz3 hz4 hz5 hz6 hz7 hz8
  go_enter Tryd.func75, Tryd.ntmps75
  go_upto_region 2 with fail
  rw [← hW]
  try rw [show (w.alloc (.cells (segV zSg none 0 0 none 0 0) 34)).heap.size = w.heap.size + 1 from alloc_size _ _]
  clear hW hzv
  go_upto_region 3 with (first
    | (go_at_call 89; (with_reducible refine (C0.out _ H0.out.rd).mono ?_); rintro e v0 ⟨rfl, R, F⟩
       have H1 := Lib.hid (H0.out.next R F)
       clear R F)
    | (go_at_call 89; (with_reducible refine (C1.out _ H1.out.rd).mono ?_); rintro e v1 ⟨rfl, R, F⟩
       have H2 := Lib.hid (H1.out.next R F)
       have ksp := pkC.PkC.cell H2.out.row.row (segC zOpt_ok.lm none 0 0 none 0 0).sp
       have fsp := H2.out.row.frozen 0
       have kdp := pkC.PkC.cell H2.out.row.row (segC zOpt_ok.lm none 0 0 none 0 0).dp
       have fdp := H2.out.row.frozen 1
       clear R F))
  have H3 := Lib.hid (((H2.out).set_ (s' := (⟨z0, 0, 0, 0, 0, 0, 0, zOpt⟩ : Sg)) 0 (.int .u16 z0) (segV_sp _)).set_ (s' := (⟨z0, z1, 0, 0, 0, 0, 0, zOpt⟩ : Sg)) 1 (.int .u16 z1) (segV_dp _))
  clear ksp fsp kdp fdp H2
  generalize ((v1.setCell ⟨w.heap.size + 1, 0, none⟩ (.int .u16 z0)).setCell ⟨w.heap.size + 1, 1, none⟩ (.int .u16 z1)) = u3 at *
  go_upto_region 4 with (first
    | (go_at_call 90; (with_reducible refine (C2.out _ H3.out.rd).mono ?_); rintro e v2 ⟨rfl, R, F⟩
       have H4 := Lib.hid (H3.out.next R F)
       clear R F)
    | (go_at_call 90; (with_reducible refine (C3.out _ H4.out.rd).mono ?_); rintro e v3 ⟨rfl, R, F⟩
       have H5 := Lib.hid (H4.out.next R F)
       have ksq := pkC.PkC.cell H5.out.row.row (segC zOpt_ok.lm none 0 0 none 0 0).sq
       have fsq := H5.out.row.frozen 2
       have kak := pkC.PkC.cell H5.out.row.row (segC zOpt_ok.lm none 0 0 none 0 0).ak
       have fak := H5.out.row.frozen 3
       clear R F))
  have H6 := Lib.hid (((H5.out).set_ (s' := (⟨z0, z1, z2, 0, 0, 0, 0, zOpt⟩ : Sg)) 2 (.int .u32 z2) (segV_sq _)).set_ (s' := (⟨z0, z1, z2, z3, 0, 0, 0, zOpt⟩ : Sg)) 3 (.int .u32 z3) (segV_ak _))
  clear ksq fsq kak fak H5
  generalize ((v3.setCell ⟨w.heap.size + 1, 2, none⟩ (.int .u32 z2)).setCell ⟨w.heap.size + 1, 3, none⟩ (.int .u32 z3)) = u6 at *
  go_upto_region 5 with (first
    | (go_at_call 91; (with_reducible refine (C4.out _ H6.out.rd).mono ?_); rintro e v4 ⟨rfl, R, F⟩
       have H7 := Lib.hid (H6.out.next R F)
       clear R F))
  clear w4 w5 g4
  go_upto_region 6 with (first
    | (go_at_call 91; (with_reducible refine (C5.out _ H7.out.rd).mono ?_); rintro e v5 ⟨rfl, R, F⟩
       have H8 := Lib.hid (H7.out.next R F)
       have kfl := pkC.PkC.cell H8.out.row.row (segC zOpt_ok.lm none 0 0 none 0 0).fl
       have ffl := H8.out.row.frozen 4
       clear R F))
  have H9 := Lib.hid ((H8.out).set_ (s' := (⟨z0, z1, z2, z3, (bits .and .u8 z5 63), 0, 0, zOpt⟩ : Sg)) 4 (.int .u8 (bits .and .u8 z5 63)) (segV_fl _))
  clear kfl ffl H8
  generalize (v5.setCell ⟨w.heap.size + 1, 4, none⟩ (.int .u8 (bits .and .u8 z5 63))) = u9 at *
  go_upto_region 7 with (first
    | (go_at_call 89; (with_reducible refine (C6.out _ H9.out.rd).mono ?_); rintro e v6 ⟨rfl, R, F⟩
       have H10 := Lib.hid (H9.out.next R F)
       have kwi := pkC.PkC.cell H10.out.row.row (segC zOpt_ok.lm none 0 0 none 0 0).wi
       have fwi := H10.out.row.frozen 5
       clear R F))
  have H11 := Lib.hid ((H10.out).set_ (s' := (⟨z0, z1, z2, z3, (bits .and .u8 z5 63), z6, 0, zOpt⟩ : Sg)) 5 (.int .u16 z6) (segV_wi _))
  clear kwi fwi H10
  generalize (v6.setCell ⟨w.heap.size + 1, 5, none⟩ (.int .u16 z6)) = u11 at *
  go_upto_region 8 with (first
    | (go_at_call 89; (with_reducible refine (C7.out _ H11.out.rd).mono ?_); rintro e v7 ⟨rfl, R, F⟩
       have H12 := Lib.hid (H11.out.next R F)
       clear R F))
  go_upto_region 9 with (first
    | (go_at_call 89; (with_reducible refine (C8.out _ H12.out.rd).mono ?_); rintro e v8 ⟨rfl, R, F⟩
       have H13 := Lib.hid (H12.out.next R F)
       have kur := pkC.PkC.cell H13.out.row.row (segC zOpt_ok.lm none 0 0 none 0 0).ur
       have fur := H13.out.row.frozen 6
       clear R F))
  have H14 := Lib.hid ((H13.out).set_ (s' := (⟨z0, z1, z2, z3, (bits .and .u8 z5 63), z6, z8, zOpt⟩ : Sg)) 6 (.int .u16 z8) (segV_ur _))
  clear kur fur H13
  generalize (v8.setCell ⟨w.heap.size + 1, 6, none⟩ (.int .u16 z8)) = u14 at *
  have RW := Lib.hid H14.out.row.row
  have ZW := Lib.hid H14.out.res.row
  have FW := Lib.hid H14.out.fr
  have IC := Lib.hid (segC (s := (⟨z0, z1, z2, z3, (bits .and .u8 z5 63), z6, z8, zOpt⟩ : Sg)) zOpt_ok.lm none 0 0 none 0 0).info
  have SZ := Lib.hid (seg_size (s := zSg) (s' := (⟨z0, z1, z2, z3, (bits .and .u8 z5 63), z6, z8, zOpt⟩ : Sg)) zOpt_ok.lm zOpt_ok.lm none none 0 0 0 0 none none 0 0 0 0)
  have OO := Lib.hid (seg_one (⟨z0, z1, z2, z3, (bits .and .u8 z5 63), z6, z8, zOpt⟩ : Sg) none 0 0 none 0 0)
  rw [← EC.out] at RW IC SZ OO
  clear EC
  go_wp2_with (first
    | (refine wpList_load_rowG (by kernel_rfl) 34 (.tmp 4) rfl (w.heap.size + 1) (by kernel_rfl) _ _ _ _ RW.out Tryd.underlying34 rfl IC.out ?_)
    | (refine wpList_store_row rfl 34 (.tmp 2) (.tmp 35) rfl w.heap.size CE rfl rfl _ _ ZW.out IC.out SZ.out OO.out ?_))
  refine bodyPost_ret (v := .tuple #[.agg CE, .int .i64 (4 * (z4 / 16))]) (adC.results_cell_tmp Tryd.results75 _ _ w.heap.size _ _ _ _ _ (by rfl) (setRow_heap _ _ _ _ _ _ ZW.out) Tryd.underlying34 rfl IC.out (by rfl)) rfl ?_
  exact ⟨rfl, opC.fr_row FW.out (Nat.le_refl _) _⟩
end Go.Proofs.YtniimgbljhmcoaaDoor.sgC

/-
  How long segments are: whether they are far, whether they have flags, how many numbers they have.
-/
namespace Go.Proofs.YtniimgbljhmcoaaDoor.sgC
open Go.ChangeShapes Go.WideShapes Go.ChangeAt Go.RowKit
open Go.Proofs.YtniimgbljhmcoaaDoor.memC Go.Proofs.YtniimgbljhmcoaaDoor.genC Go.Proofs.YtniimgbljhmcoaaDoor.butC Go.Proofs.YtniimgbljhmcoaaDoor.freeC Go.Proofs.YtniimgbljhmcoaaDoor.adC
open Go.Proofs.YtniimgbljhmcoaaDoor.opC (gr_drewG)
set_option linter.unusedVariables false
def farB (m n : Nat) : Bool := (decide (1500 < m) && decide (m ≤ 16384)) || (decide (500 < n) || decide (20000 < m))
theorem farB_not {m n : Nat} (h : farB m n = false) : n ≤ 500 ∧ m ≤ 20000 ∧ (m ≤ 1500 ∨ 16384 < m) := by
  unfold farB at h
  simp at h
  omega
set_option maxRecDepth 100000 in
set_option maxHeartbeats 1000000 in
theorem far_any (s : Sg) (A : Option Addr) (n c : Nat) (B : Option Addr) (m d : Nat) (w : World) (hl : s.op.mac.length = 12) : Calls Tryd.prog 9 #[.agg (segV s A n c B m d)] w (Ret w (.bool (farB m n))) := by
  obtain ⟨W, hW⟩ : ∃ W, W = w.alloc (.cells (segV s A n c B m d) 34) := ⟨_, rfl⟩
  have R : W.heap[w.heap.size]? = some (.cells (segV s A n c B m d) 34 (0, 0)) := by rw [hW]; exact heap_alloc_new _ _
  have HB := Lib.hid (show Below w.heap.size w W by rw [hW]; exact alloc_below _ _)
  have c12 := pkC.PkC.cell R (segC hl A n c B m d).sk
  have c31 := pkC.PkC.cell R (segC hl A n c B m d).da
  generalize segV s A n c B m d = C at *
  clear R hl
  obtain ⟨V, hV⟩ : ∃ V, V = farB m n := ⟨_, rfl⟩
  rw [← hV]
  unfold farB at hV
  have HV := Lib.hid hV
  clear hV
  by_cases h1 : 1500 < m
  · skip
    by_cases h2 : m ≤ 16384
    · skip
      have qa : (1500 : Int) < (m : Int) := by omega
      have qan : 1500 < m := by omega
      have da : decide ((1500 : Int) < (m : Int)) = true := decide_eq_true qa
      have dan : decide (1500 < m) = true := decide_eq_true qan
      have qb : (m : Int) ≤ 16384 := by omega
      have qbn : m ≤ 16384 := by omega
      have db : decide ((m : Int) ≤ 16384) = true := decide_eq_true qb
      have dbn : decide (m ≤ 16384) = true := decide_eq_true qbn
      have HR := Lib.hid (show V = true by rw [HV.out]; simp; omega)
      go_enter Tryd.func9, Tryd.ntmps9
      go_upto_region 1 with fail
      rw [← hW]
      clear hW
      go_wp2_with (first | go_skip)
      go_ret
      exact ⟨ret_bool HR.out.symm, HB.out⟩
    · skip
      by_cases h3 : 500 < n
      · skip
        have qa : (1500 : Int) < (m : Int) := by omega
        have qan : 1500 < m := by omega
        have da : decide ((1500 : Int) < (m : Int)) = true := decide_eq_true qa
        have dan : decide (1500 < m) = true := decide_eq_true qan
        have qb : ¬ (m : Int) ≤ 16384 := by omega
        have qbn : ¬ m ≤ 16384 := by omega
        have db : decide ((m : Int) ≤ 16384) = false := decide_eq_false qb
        have dbn : decide (m ≤ 16384) = false := decide_eq_false qbn
        have qc : (500 : Int) < (n : Int) := by omega
        have qcn : 500 < n := by omega
        have dc : decide ((500 : Int) < (n : Int)) = true := decide_eq_true qc
        have dcn : decide (500 < n) = true := decide_eq_true qcn
        have HR := Lib.hid (show V = true by rw [HV.out]; simp; omega)
        go_enter Tryd.func9, Tryd.ntmps9
        go_upto_region 1 with fail
        rw [← hW]
        clear hW
        go_wp2_with (first | go_skip)
        go_ret
        exact ⟨ret_bool HR.out.symm, HB.out⟩
      · skip
        by_cases h4 : 20000 < m
        · skip
          have qa : (1500 : Int) < (m : Int) := by omega
          have qan : 1500 < m := by omega
          have da : decide ((1500 : Int) < (m : Int)) = true := decide_eq_true qa
          have dan : decide (1500 < m) = true := decide_eq_true qan
          have qb : ¬ (m : Int) ≤ 16384 := by omega
          have qbn : ¬ m ≤ 16384 := by omega
          have db : decide ((m : Int) ≤ 16384) = false := decide_eq_false qb
          have dbn : decide (m ≤ 16384) = false := decide_eq_false qbn
          have qc : ¬ (500 : Int) < (n : Int) := by omega
          have qcn : ¬ 500 < n := by omega
          have dc : decide ((500 : Int) < (n : Int)) = false := decide_eq_false qc
          have dcn : decide (500 < n) = false := decide_eq_false qcn
          have qd : (20000 : Int) < (m : Int) := by omega
          have qdn : 20000 < m := by omega
          have dd : decide ((20000 : Int) < (m : Int)) = true := decide_eq_true qd
          have ddn : decide (20000 < m) = true := decide_eq_true qdn
          have HR := Lib.hid (show V = true by rw [HV.out]; simp; omega)
          go_enter Tryd.func9, Tryd.ntmps9
          go_upto_region 1 with fail
          rw [← hW]
          clear hW
          go_wp2_with (first | go_skip)
          go_ret
          exact ⟨ret_bool HR.out.symm, HB.out⟩
        · skip
          have qa : (1500 : Int) < (m : Int) := by omega
          have qan : 1500 < m := by omega
          have da : decide ((1500 : Int) < (m : Int)) = true := decide_eq_true qa
          have dan : decide (1500 < m) = true := decide_eq_true qan
          have qb : ¬ (m : Int) ≤ 16384 := by omega
          have qbn : ¬ m ≤ 16384 := by omega
          have db : decide ((m : Int) ≤ 16384) = false := decide_eq_false qb
          have dbn : decide (m ≤ 16384) = false := decide_eq_false qbn
          have qc : ¬ (500 : Int) < (n : Int) := by omega
          have qcn : ¬ 500 < n := by omega
          have dc : decide ((500 : Int) < (n : Int)) = false := decide_eq_false qc
          have dcn : decide (500 < n) = false := decide_eq_false qcn
          have qd : ¬ (20000 : Int) < (m : Int) := by omega
          have qdn : ¬ 20000 < m := by omega
          have dd : decide ((20000 : Int) < (m : Int)) = false := decide_eq_false qd
          have ddn : decide (20000 < m) = false := decide_eq_false qdn
          have HR := Lib.hid (show V = false by rw [HV.out]; simp; omega)
          go_enter Tryd.func9, Tryd.ntmps9
          go_upto_region 1 with fail
          rw [← hW]
          clear hW
          go_wp2_with (first | go_skip)
          go_ret
          exact ⟨ret_bool HR.out.symm, HB.out⟩
  · skip
    by_cases h3 : 500 < n
    · skip
      have qa : ¬ (1500 : Int) < (m : Int) := by omega
      have qan : ¬ 1500 < m := by omega
      have da : decide ((1500 : Int) < (m : Int)) = false := decide_eq_false qa
      have dan : decide (1500 < m) = false := decide_eq_false qan
      have qc : (500 : Int) < (n : Int) := by omega
      have qcn : 500 < n := by omega
      have dc : decide ((500 : Int) < (n : Int)) = true := decide_eq_true qc
      have dcn : decide (500 < n) = true := decide_eq_true qcn
      have HR := Lib.hid (show V = true by rw [HV.out]; simp; omega)
      go_enter Tryd.func9, Tryd.ntmps9
      go_upto_region 1 with fail
      rw [← hW]
      clear hW
      go_wp2_with (first | go_skip)
      go_ret
      exact ⟨ret_bool HR.out.symm, HB.out⟩
    · skip
      have h4 : ¬ 20000 < m := by omega
      have qa : ¬ (1500 : Int) < (m : Int) := by omega
      have qan : ¬ 1500 < m := by omega
      have da : decide ((1500 : Int) < (m : Int)) = false := decide_eq_false qa
      have dan : decide (1500 < m) = false := decide_eq_false qan
      have qc : ¬ (500 : Int) < (n : Int) := by omega
      have qcn : ¬ 500 < n := by omega
      have dc : decide ((500 : Int) < (n : Int)) = false := decide_eq_false qc
      have dcn : decide (500 < n) = false := decide_eq_false qcn
      have qd : ¬ (20000 : Int) < (m : Int) := by omega
      have qdn : ¬ 20000 < m := by omega
      have dd : decide ((20000 : Int) < (m : Int)) = false := decide_eq_false qd
      have ddn : decide (20000 < m) = false := decide_eq_false qdn
      have HR := Lib.hid (show V = false by rw [HV.out]; simp; omega)
      go_enter Tryd.func9, Tryd.ntmps9
      go_upto_region 1 with fail
      rw [← hW]
      clear hW
      go_wp2_with (first | go_skip)
      go_ret
      exact ⟨ret_bool HR.out.symm, HB.out⟩
theorem chas_any (s : Sg) (A : Option Addr) (n c : Nat) (B : Option Addr) (m d : Nat) (k : Int) (w : World) (hl : s.op.mac.length = 12) : Calls Tryd.prog 19 #[.agg (segV s A n c B m d), .int .u8 k] w (Ret w (.bool (hasS s.fl k))) := by
  obtain ⟨W, hW⟩ : ∃ W, W = w.alloc (.cells (segV s A n c B m d) 34) := ⟨_, rfl⟩
  have R : W.heap[w.heap.size]? = some (.cells (segV s A n c B m d) 34 (0, 0)) := by rw [hW]; exact heap_alloc_new _ _
  have HB := Lib.hid (show Below w.heap.size w W by rw [hW]; exact alloc_below _ _)
  have c4 := pkC.PkC.cell R (segC hl A n c B m d).fl
  generalize segV s A n c B m d = C at *
  generalize s.fl = f at *
  clear R hl
  unfold hasS
  go_enter Tryd.func19, Tryd.ntmps19
  go_upto_region 1 with fail
  rw [← hW]
  clear hW
  go_wp2_with fail
  go_ret
  exact ⟨ret_bool (by simp), HB.out⟩
theorem rhas_any (s : Sg) (A : Option Addr) (n c : Nat) (B : Option Addr) (m d : Nat) (k : Int) (w : World) (hl : s.op.mac.length = 12) : Calls Tryd.prog 20 #[.agg (segV s A n c B m d), .int .u8 k] w (Ret w (.bool (hasS s.fl k))) := by
  obtain ⟨W, hW⟩ : ∃ W, W = w.alloc (.cells (segV s A n c B m d) 34) := ⟨_, rfl⟩
  have R : W.heap[w.heap.size]? = some (.cells (segV s A n c B m d) 34 (0, 0)) := by rw [hW]; exact heap_alloc_new _ _
  have HB := Lib.hid (show Below w.heap.size w W by rw [hW]; exact alloc_below _ _)
  have c4 := pkC.PkC.cell R (segC hl A n c B m d).fl
  generalize segV s A n c B m d = C at *
  generalize s.fl = f at *
  clear R hl
  unfold hasS
  go_enter Tryd.func20, Tryd.ntmps20
  go_upto_region 1 with fail
  rw [← hW]
  clear hW
  go_wp2_with fail
  go_ret
  exact ⟨ret_bool (by simp), HB.out⟩
def oneN (b : Bool) : Int := if b = true then 1 else 0
theorem cnum_any (s : Sg) (A : Option Addr) (n c : Nat) (B : Option Addr) (m d : Nat) (k : Int) (w : World) (hl : s.op.mac.length = 12) : Calls Tryd.prog 37 #[.agg (segV s A n c B m d), .int .u8 k] w (Ret w (.int .u32 (oneN (hasS s.fl k)))) := by
  obtain ⟨W, hW⟩ : ∃ W, W = w.alloc (.cells (segV s A n c B m d) 34) := ⟨_, rfl⟩
  have R := Lib.hid (show W.heap[w.heap.size]? = some (.cells (segV s A n c B m d) 34 (0, 0)) by rw [hW]; exact heap_alloc_new _ _)
  have HB := Lib.hid (show Below w.heap.size w W by rw [hW]; exact alloc_below _ _)
  have IC := Lib.hid (segC hl A n c B m d).info
  have HA := Lib.hid (fun w' => chas_any s A n c B m d k w' hl)
  generalize segV s A n c B m d = C at *
  generalize hasS s.fl k = b at *
  clear hl
  cases b
  · go_enter Tryd.func37, Tryd.ntmps37
    go_upto_region 1 with fail
    rw [← hW]
    clear hW
    go_wp2_with (first
      | (refine wpList_load_row rfl 34 (.tmp 2) rfl w.heap.size rfl _ _ _ _ R.out Tryd.underlying34 rfl IC.out ?_)
      | (go_at_call 19; (refine (HA.out _).mono ?_); rintro e w2 ⟨rfl, B2⟩
         have HB2 := Lib.hid (HB.out.trans (B2.mono HB.out.size))
         clear B2))
    go_ret
    exact ⟨rfl, HB2.out⟩
  · go_enter Tryd.func37, Tryd.ntmps37
    go_upto_region 1 with fail
    rw [← hW]
    clear hW
    go_wp2_with (first
      | (refine wpList_load_row rfl 34 (.tmp 2) rfl w.heap.size rfl _ _ _ _ R.out Tryd.underlying34 rfl IC.out ?_)
      | (go_at_call 19; (refine (HA.out _).mono ?_); rintro e w2 ⟨rfl, B2⟩
         have HB2 := Lib.hid (HB.out.trans (B2.mono HB.out.size))
         clear B2))
    go_ret
    exact ⟨rfl, HB2.out⟩
def lnV (g0 : Nat) (CP : Array Value) (B : Option Addr) (m d : Nat) (yy ii L : Int) : Nat → Value → World → Prop
  | 0, v, _ => v = .agg CP
  | 1, v, _ => v = .int .u32 yy
  | 2, v, _ => v = .pointer (some ⟨g0, 31, none⟩)
  | 3, v, _ => v = .slice B m d
  | 4, v, _ => v = .int .i64 m
  | 5, v, _ => v = .int .u32 (m : Int)
  | 6, v, _ => v = .int .u32 (yy + (m : Int))
  | 7, v, _ => v = .agg CP
  | 8, v, _ => v = .int .u32 ii
  | 9, v, _ => v = .int .u32 L
  | 10, v, _ => v = .int .u32 L
  | _, _, _ => True
theorem lnV.keep (g0 : Nat) (CP : Array Value) (B : Option Addr) (m d : Nat) (yy ii L : Int) (i : Nat) (v : Value) (w w' : World) (hb : Below w.heap.size w w') (h : lnV g0 CP B m d yy ii L i v w) : lnV g0 CP B m d yy ii L i v w' := by
  unfold lnV at h ⊢
  split at h <;> exact h
def lnT : List (Option Nat) := [none, none, some 10, some 0, some 1, some 2, some 3, some 4, some 5, some 6, some 7, some 8, some 9]
set_option maxRecDepth 100000 in
set_option maxHeartbeats 1000000 in
theorem clen_any (s : Sg) (A : Option Addr) (n c : Nat) (B : Option Addr) (m d : Nat) (w : World) (hs : s.op.mac.length = 12) (hf : Byte s.fl) (hm : m ≤ 100000) : Calls Tryd.prog 15 #[.agg (segV s A n c B m d)] w (Ret w (.int .u32 (lenN s.fl m))) := by
  obtain ⟨W, hW⟩ : ∃ W, W = w.alloc (.cells (segV s A n c B m d) 34) := ⟨_, rfl⟩
  have R : W.heap[w.heap.size]? = some (.cells (segV s A n c B m d) 34 (0, 0)) := by rw [hW]; exact heap_alloc_new _ _
  have HB := Lib.hid (show Below w.heap.size w W by rw [hW]; exact alloc_below _ _)
  have OC := segC hs A n c B m d
  have IC := Lib.hid OC.info
  have KR := Lib.hid (fun (w' : World) (h : Gr W w') => (show w'.heap[w.heap.size]? = some (.cells (segV s A n c B m d) 34 (0, 0)) by rw [Below.block h _ (lt_of_row R)]; exact R))
  have KD := Lib.hid (fun w' (h : Gr W w') => pkC.PkC.cell (KR.out w' h) OC.da)
  have NY := Lib.hid (fun w' => cnum_any s A n c B m d 2 w' hs)
  have NI := Lib.hid (fun w' => cnum_any s A n c B m d 1 w' hs)
  have ey : oneN (hasS s.fl 2) = syN s.fl := by rw [has_syn hf]; unfold oneN; have := syN_bd s.fl; by_cases h : syN s.fl = 1 <;> simp [h]; omega
  have ei : oneN (hasS s.fl 1) = fiN s.fl := by rw [has_fin hf]; unfold oneN; have := fiN_bd s.fl; by_cases h : fiN s.fl = 1 <;> simp [h]; omega
  rw [ey] at NY
  rw [ei] at NI
  have y1 := syN_bd s.fl
  have i1 := fiN_bd s.fl
  obtain ⟨L, hL⟩ : ∃ L, L = lenN s.fl m := ⟨_, rfl⟩
  have WM := Lib.hid (show IntKind.u32.wrap (m : Int) = (m : Int) from IntWalk.u32_in _ (by omega))
  have WY := Lib.hid (show IntKind.u32.wrap (syN s.fl + (m : Int)) = syN s.fl + (m : Int) from IntWalk.u32_in _ (by omega))
  have WL := Lib.hid (show IntKind.u32.wrap (syN s.fl + (m : Int) + fiN s.fl) = L by rw [hL]; exact IntWalk.u32_in _ (by omega))
  rw [← hL]
  generalize syN s.fl = yy at *
  generalize fiN s.fl = ii at *
  generalize segV s A n c B m d = CP at *
  clear R OC hs hf hm hL ey ei y1 i1
  go_enter Tryd.func15, Tryd.ntmps15
  go_upto_region 1 with fail
  rw [← hW]
  clear hW
  refine with_act fun a0 ha0 => ?_
  have hl : lnT.length = a0.tmps.size := by rw [ha0]; rfl
  have k1 : a0.tmps[1]?.getD undef = .pointer (some ⟨w.heap.size, 0, none⟩) := by rw [ha0]; rfl
  refine wp_region_vals (by kernel_rfl) lnT (by kernel_rfl) (by kernel_rfl) hl (fun i => if i = 10 then .int .u32 0 else undef) (by rw [ha0]; rfl) (Gr W) (lnV w.heap.size CP B m d yy ii L) (gr_drewG _ _) (lnV.keep _ _ _ _ _ _ _ _) ⟨?_, ?_, ?_, ?_, ?_, ?_, ?_, ?_, ?_, ?_, ?_, trivial⟩ ?_
  · refine step_plain [] (by kernel_rfl) rfl fun us w' hG hV => ?_
    have o1 := (frame_old2 (us := us) (a := a0) (show (lnT[1]?).join = none from rfl)).trans k1
    have hg1 := (KR.out w' hG)
    generalize frame lnT a0 us = fr at *
    exact load_ok 34 1 rfl (w.heap.size) o1 _ _ (0, 0) _ hg1 Tryd.underlying34 rfl IC.out hG rfl
  · refine step_plain [0] (by kernel_rfl) rfl fun us w' hG hV => ?_
    have e0 : us 0 = .agg CP := hV 0 (by simp)
    have v0 := (frame_at2 (us := us) hl (show (lnT[3]?).join = some 0 from rfl)).trans e0
    generalize frame lnT a0 us = fr at *
    exact call_ok (f := 37) (args := #[.agg CP, .int .u8 2]) (by go_simp) ((NY.out w').mono fun e w'' h => ⟨_, h.1, hG.below h.2, h.2, rfl⟩)
  · refine step_plain [] (by kernel_rfl) rfl fun us w' hG hV => ?_
    have o1 := (frame_old2 (us := us) (a := a0) (show (lnT[1]?).join = none from rfl)).trans k1
    generalize frame lnT a0 us = fr at *
    exact val_ok (v := .pointer (some ⟨w.heap.size, 31, none⟩)) (w' := w') (by go_simp) hG (Below.refl _ _) rfl
  · refine step_plain [2] (by kernel_rfl) rfl fun us w' hG hV => ?_
    have e2 : us 2 = .pointer (some ⟨w.heap.size, 31, none⟩) := hV 2 (by simp)
    have v2 := (frame_at2 (us := us) hl (show (lnT[5]?).join = some 2 from rfl)).trans e2
    have hc := KD.out w' hG
    generalize frame lnT a0 us = fr at *
    exact val_ok (v := .slice B m d) (w' := w') (by go_simp) hG (Below.refl _ _) rfl
  · refine step_plain [3] (by kernel_rfl) rfl fun us w' hG hV => ?_
    have e3 : us 3 = .slice B m d := hV 3 (by simp)
    have v3 := (frame_at2 (us := us) hl (show (lnT[6]?).join = some 3 from rfl)).trans e3
    generalize frame lnT a0 us = fr at *
    exact val_ok (v := .int .i64 m) (w' := w') (by go_simp) hG (Below.refl _ _) rfl
  · refine step_plain [4] (by kernel_rfl) rfl fun us w' hG hV => ?_
    have e4 : us 4 = .int .i64 m := hV 4 (by simp)
    have v4 := (frame_at2 (us := us) hl (show (lnT[7]?).join = some 4 from rfl)).trans e4
    have hw := WM.out
    generalize frame lnT a0 us = fr at *
    exact val_ok (v := .int .u32 (m : Int)) (w' := w') (by go_simp) hG (Below.refl _ _) rfl
  · refine step_plain [1, 5] (by kernel_rfl) rfl fun us w' hG hV => ?_
    have e1 : us 1 = .int .u32 yy := hV 1 (by simp)
    have v1 := (frame_at2 (us := us) hl (show (lnT[4]?).join = some 1 from rfl)).trans e1
    have e5 : us 5 = .int .u32 (m : Int) := hV 5 (by simp)
    have v5 := (frame_at2 (us := us) hl (show (lnT[8]?).join = some 5 from rfl)).trans e5
    have hw := WY.out
    generalize frame lnT a0 us = fr at *
    exact val_ok (v := .int .u32 (yy + (m : Int))) (w' := w') (by go_simp) hG (Below.refl _ _) rfl
  · refine step_plain [] (by kernel_rfl) rfl fun us w' hG hV => ?_
    have o1 := (frame_old2 (us := us) (a := a0) (show (lnT[1]?).join = none from rfl)).trans k1
    have hg1 := (KR.out w' hG)
    generalize frame lnT a0 us = fr at *
    exact load_ok 34 1 rfl (w.heap.size) o1 _ _ (0, 0) _ hg1 Tryd.underlying34 rfl IC.out hG rfl
  · refine step_plain [7] (by kernel_rfl) rfl fun us w' hG hV => ?_
    have e7 : us 7 = .agg CP := hV 7 (by simp)
    have v7 := (frame_at2 (us := us) hl (show (lnT[10]?).join = some 7 from rfl)).trans e7
    generalize frame lnT a0 us = fr at *
    exact call_ok (f := 37) (args := #[.agg CP, .int .u8 1]) (by go_simp) ((NI.out w').mono fun e w'' h => ⟨_, h.1, hG.below h.2, h.2, rfl⟩)
  · refine step_plain [6, 8] (by kernel_rfl) rfl fun us w' hG hV => ?_
    have e6 : us 6 = .int .u32 (yy + (m : Int)) := hV 6 (by simp)
    have v6 := (frame_at2 (us := us) hl (show (lnT[9]?).join = some 6 from rfl)).trans e6
    have e8 : us 8 = .int .u32 ii := hV 8 (by simp)
    have v8 := (frame_at2 (us := us) hl (show (lnT[11]?).join = some 8 from rfl)).trans e8
    have hw := WL.out
    generalize frame lnT a0 us = fr at *
    exact val_ok (v := .int .u32 L) (w' := w') (by go_simp) hG (Below.refl _ _) rfl
  · refine step_plain [9] (by kernel_rfl) rfl fun us w' hG hV => ?_
    have e9 : us 9 = .int .u32 L := hV 9 (by simp)
    have v9 := (frame_at2 (us := us) hl (show (lnT[12]?).join = some 9 from rfl)).trans e9
    generalize frame lnT a0 us = fr at *
    exact val_ok (v := .int .u32 L) (w' := w') (by go_simp) hG (Below.refl _ _) rfl
  · intro us w5 hG hV
    have e8 : us 10 = .int .u32 L := hV 10 (by decide)
    subst ha0
    simp only [frame, lnT, fill]
    rw [e8]
    have HG3 := Lib.hid hG
    clear hV hl hG k1 e8
    go_wp2_with fail
    go_ret
    exact ⟨rfl, HB.out.trans (Below.mono HG3.out HB.out.size)⟩
set_option maxRecDepth 100000 in
set_option maxHeartbeats 1000000 in
theorem rlen_any (s : Sg) (A : Option Addr) (n c : Nat) (B : Option Addr) (m d : Nat) (w : World) (hs : s.op.mac.length = 12) (hf : Byte s.fl) (hm : m ≤ 100000) : Calls Tryd.prog 16 #[.agg (segV s A n c B m d)] w (Ret w (.int .u32 (lenN s.fl m))) := by
  obtain ⟨W, hW⟩ : ∃ W, W = w.alloc (.cells (segV s A n c B m d) 34) := ⟨_, rfl⟩
  have R := Lib.hid (show W.heap[w.heap.size]? = some (.cells (segV s A n c B m d) 34 (0, 0)) by rw [hW]; exact heap_alloc_new _ _)
  have HB := Lib.hid (show Below w.heap.size w W by rw [hW]; exact alloc_below _ _)
  have OC := segC hs A n c B m d
  have IC := Lib.hid OC.info
  have c31 := pkC.PkC.cell R.out OC.da
  have NY := Lib.hid (fun w' => rhas_any s A n c B m d 2 w' hs)
  have NI := Lib.hid (fun w' => rhas_any s A n c B m d 1 w' hs)
  rw [has_syn hf] at NY
  rw [has_fin hf] at NI
  have y1 := syN_bd s.fl
  have i1 := fiN_bd s.fl
  obtain ⟨L, hL⟩ : ∃ L, L = lenN s.fl m := ⟨_, rfl⟩
  rw [← hL]
  unfold lenN at hL
  generalize syN s.fl = y at *
  generalize fiN s.fl = i at *
  generalize segV s A n c B m d = CP at *
  have wm : IntKind.u32.wrap (m : Int) = (m : Int) := IntWalk.u32_in _ (by omega)
  have w1 : IntKind.u32.wrap ((m : Int) + 1) = (m : Int) + 1 := IntWalk.u32_in _ (by omega)
  have w2 : IntKind.u32.wrap ((m : Int) + 1 + 1) = (m : Int) + 1 + 1 := IntWalk.u32_in _ (by omega)
  clear OC hs hf hm
  rcases y1 with rfl | rfl <;> rcases i1 with rfl | rfl
  · have HL := Lib.hid hL
    clear hL
    rw [show decide ((0 : Int) = 1) = false from rfl] at NY
    rw [show decide ((0 : Int) = 1) = false from rfl] at NI
    go_enter Tryd.func16, Tryd.ntmps16
    go_upto_region 1 with fail
    rw [← hW]
    clear hW
    go_wp2_with (first
      | (refine wpList_load_row rfl 34 (.tmp 1) rfl w.heap.size rfl _ _ _ _ R.out Tryd.underlying34 rfl IC.out ?_)
      | (go_at_call 20; (with_reducible refine (NY.out _).mono ?_); rintro e w2 ⟨rfl, B2⟩
         have HB2 := Lib.hid (HB.out.trans (B2.mono HB.out.size))
         have R2 := Lib.hid (show w2.heap[w.heap.size]? = some (.cells CP 34 (0, 0)) by rw [B2.block _ (lt_of_row R.out)]; exact R.out)
         clear B2)
      | (refine wpList_load_row rfl 34 (.tmp 1) rfl w.heap.size rfl _ _ _ _ R2.out Tryd.underlying34 rfl IC.out ?_)
      | (go_at_call 20; (with_reducible refine (NI.out _).mono ?_); rintro e w3 ⟨rfl, B3⟩
         have HB3 := Lib.hid (HB2.out.trans (B3.mono HB2.out.size))
         clear B3))
    go_ret
    exact ⟨ret_int (by rw [HL.out]; omega), HB3.out⟩
  · have HL := Lib.hid hL
    clear hL
    rw [show decide ((0 : Int) = 1) = false from rfl] at NY
    rw [show decide ((1 : Int) = 1) = true from rfl] at NI
    go_enter Tryd.func16, Tryd.ntmps16
    go_upto_region 1 with fail
    rw [← hW]
    clear hW
    go_wp2_with (first
      | (refine wpList_load_row rfl 34 (.tmp 1) rfl w.heap.size rfl _ _ _ _ R.out Tryd.underlying34 rfl IC.out ?_)
      | (go_at_call 20; (with_reducible refine (NY.out _).mono ?_); rintro e w2 ⟨rfl, B2⟩
         have HB2 := Lib.hid (HB.out.trans (B2.mono HB.out.size))
         have R2 := Lib.hid (show w2.heap[w.heap.size]? = some (.cells CP 34 (0, 0)) by rw [B2.block _ (lt_of_row R.out)]; exact R.out)
         clear B2)
      | (refine wpList_load_row rfl 34 (.tmp 1) rfl w.heap.size rfl _ _ _ _ R2.out Tryd.underlying34 rfl IC.out ?_)
      | (go_at_call 20; (with_reducible refine (NI.out _).mono ?_); rintro e w3 ⟨rfl, B3⟩
         have HB3 := Lib.hid (HB2.out.trans (B3.mono HB2.out.size))
         clear B3))
    go_ret
    exact ⟨ret_int (by rw [HL.out]; omega), HB3.out⟩
  · have HL := Lib.hid hL
    clear hL
    rw [show decide ((1 : Int) = 1) = true from rfl] at NY
    rw [show decide ((0 : Int) = 1) = false from rfl] at NI
    go_enter Tryd.func16, Tryd.ntmps16
    go_upto_region 1 with fail
    rw [← hW]
    clear hW
    go_wp2_with (first
      | (refine wpList_load_row rfl 34 (.tmp 1) rfl w.heap.size rfl _ _ _ _ R.out Tryd.underlying34 rfl IC.out ?_)
      | (go_at_call 20; (with_reducible refine (NY.out _).mono ?_); rintro e w2 ⟨rfl, B2⟩
         have HB2 := Lib.hid (HB.out.trans (B2.mono HB.out.size))
         have R2 := Lib.hid (show w2.heap[w.heap.size]? = some (.cells CP 34 (0, 0)) by rw [B2.block _ (lt_of_row R.out)]; exact R.out)
         clear B2)
      | (refine wpList_load_row rfl 34 (.tmp 1) rfl w.heap.size rfl _ _ _ _ R2.out Tryd.underlying34 rfl IC.out ?_)
      | (go_at_call 20; (with_reducible refine (NI.out _).mono ?_); rintro e w3 ⟨rfl, B3⟩
         have HB3 := Lib.hid (HB2.out.trans (B3.mono HB2.out.size))
         clear B3))
    go_ret
    exact ⟨ret_int (by rw [HL.out]; omega), HB3.out⟩
  · have HL := Lib.hid hL
    clear hL
    rw [show decide ((1 : Int) = 1) = true from rfl] at NY
    rw [show decide ((1 : Int) = 1) = true from rfl] at NI
    go_enter Tryd.func16, Tryd.ntmps16
    go_upto_region 1 with fail
    rw [← hW]
    clear hW
    go_wp2_with (first
      | (refine wpList_load_row rfl 34 (.tmp 1) rfl w.heap.size rfl _ _ _ _ R.out Tryd.underlying34 rfl IC.out ?_)
      | (go_at_call 20; (with_reducible refine (NY.out _).mono ?_); rintro e w2 ⟨rfl, B2⟩
         have HB2 := Lib.hid (HB.out.trans (B2.mono HB.out.size))
         have R2 := Lib.hid (show w2.heap[w.heap.size]? = some (.cells CP 34 (0, 0)) by rw [B2.block _ (lt_of_row R.out)]; exact R.out)
         clear B2)
      | (refine wpList_load_row rfl 34 (.tmp 1) rfl w.heap.size rfl _ _ _ _ R2.out Tryd.underlying34 rfl IC.out ?_)
      | (go_at_call 20; (with_reducible refine (NI.out _).mono ?_); rintro e w3 ⟨rfl, B3⟩
         have HB3 := Lib.hid (HB2.out.trans (B3.mono HB2.out.size))
         clear B3))
    go_ret
    exact ⟨ret_int (by rw [HL.out]; omega), HB3.out⟩
end Go.Proofs.YtniimgbljhmcoaaDoor.sgC

/-
  Whether segments may be: the program's, and the document's.
-/
namespace Go.Proofs.YtniimgbljhmcoaaDoor.sgC
open Go.ChangeShapes Go.WideShapes Go.ChangeAt Go.RowKit
open Go.Proofs.YtniimgbljhmcoaaDoor.memC Go.Proofs.YtniimgbljhmcoaaDoor.genC Go.Proofs.YtniimgbljhmcoaaDoor.butC Go.Proofs.YtniimgbljhmcoaaDoor.freeC Go.Proofs.YtniimgbljhmcoaaDoor.adC
open Go.Proofs.YtniimgbljhmcoaaDoor.opC (Kd Prs optL mayB)
set_option linter.unusedVariables false
def mayS (s : Sg) (m : Nat) : Bool := mayB s.op && (decide (s.fl ≤ 63) && decide (m ≤ 16384))
set_option maxRecDepth 100000 in
set_option maxHeartbeats 2000000 in
theorem cmay_any (s : Sg) (A : Option Addr) (n c : Nat) (B : Option Addr) (m d : Nat) (w : World) (hk : Kd w) (hl : s.op.mac.length = 12) (hn : s.op.sk.length = n) (hm : n ≤ 100000) :
    Calls Tryd.prog 13 #[.agg (segV s A n c B m d)] w (Ret w (.bool (mayS s m))) := by
  obtain ⟨W, hW⟩ : ∃ W, W = w.alloc (.cells (segV s A n c B m d) 34) := ⟨_, rfl⟩
  have R := Lib.hid (show W.heap[w.heap.size]? = some (.cells (segV s A n c B m d) 34 (0, 0)) by rw [hW]; exact heap_alloc_new _ _)
  have HB := Lib.hid (show Below w.heap.size w W by rw [hW]; exact alloc_below _ _)
  have MA := Lib.hid (opC.cmay_any s.op A n c W (hk.bel HB.out) hl hn hm)
  have OC := segC hl A n c B m d
  have C4 := Lib.hid OC.fl
  have C31 := Lib.hid OC.da
  have LP := Lib.hid (pkC.PkC.part R.out OC.op)
  have IO0 := Lib.hid (opt_infoL hl A n c)
  obtain ⟨V, hV⟩ : ∃ V, V = mayS s m := ⟨_, rfl⟩
  rw [← hV]
  unfold mayS at hV
  have HV := Lib.hid hV
  rw [show opC.optV s.op A n c = (optL s.op A n c).toArray from rfl] at MA
  generalize mayB s.op = b0 at *
  generalize s.fl = f at *
  generalize optL s.op A n c = L0 at *
  generalize segV s A n c B m d = C at *
  clear OC hV hl hn hk hm
  cases b0
  · have hv := Lib.hid (show V = false by rw [HV.out]; simp [*])
    go_enter Tryd.func13, Tryd.ntmps13
    go_upto_region 1 with fail
    rw [← hW]
    clear hW
    go_wp2_with (first
      | go_skip
      | (with_reducible refine atC.at_load 31 3 ?_; refine pkC.wpList_load_partG (by kernel_rfl) 31 (.tmp 3) rfl w.heap.size 7 (by kernel_rfl) L0 _ LP.out Tryd.underlying31 rfl IO0.out ?_)
      | (go_at_call 35; (refine MA.out.mono ?_); rintro e w2 ⟨rfl, B2⟩
         have HB2 := Lib.hid (HB.out.trans (B2.mono HB.out.size))
         have R2 := Lib.hid (show w2.heap[w.heap.size]? = some (.cells C 34 (0, 0)) by rw [B2.block _ (opC.lt_of_row R.out)]; exact R.out)
         have c4 := pkC.PkC.cell R2.out C4.out
         have c31 := pkC.PkC.cell R2.out C31.out
         clear B2))
    go_ret
    exact ⟨ret_bool hv.out.symm, HB2.out⟩
  by_cases h1 : f ≤ 63
  rotate_left
  · have d1 : decide (f ≤ 63) = false := decide_eq_false h1
    have hv := Lib.hid (show V = false by rw [HV.out]; simp [*])
    go_enter Tryd.func13, Tryd.ntmps13
    go_upto_region 1 with fail
    rw [← hW]
    clear hW
    go_wp2_with (first
      | go_skip
      | (with_reducible refine atC.at_load 31 3 ?_; refine pkC.wpList_load_partG (by kernel_rfl) 31 (.tmp 3) rfl w.heap.size 7 (by kernel_rfl) L0 _ LP.out Tryd.underlying31 rfl IO0.out ?_)
      | (go_at_call 35; (refine MA.out.mono ?_); rintro e w2 ⟨rfl, B2⟩
         have HB2 := Lib.hid (HB.out.trans (B2.mono HB.out.size))
         have R2 := Lib.hid (show w2.heap[w.heap.size]? = some (.cells C 34 (0, 0)) by rw [B2.block _ (opC.lt_of_row R.out)]; exact R.out)
         have c4 := pkC.PkC.cell R2.out C4.out
         have c31 := pkC.PkC.cell R2.out C31.out
         clear B2))
    go_ret
    exact ⟨ret_bool hv.out.symm, HB2.out⟩
  by_cases h2 : m ≤ 16384
  · have q2 : (m : Int) ≤ 16384 := by omega
    have d2 : decide ((m : Int) ≤ 16384) = true := decide_eq_true q2
    have hv := Lib.hid (show V = true by rw [HV.out]; simp [*])
    go_enter Tryd.func13, Tryd.ntmps13
    go_upto_region 1 with fail
    rw [← hW]
    clear hW
    go_wp2_with (first
      | go_skip
      | (with_reducible refine atC.at_load 31 3 ?_; refine pkC.wpList_load_partG (by kernel_rfl) 31 (.tmp 3) rfl w.heap.size 7 (by kernel_rfl) L0 _ LP.out Tryd.underlying31 rfl IO0.out ?_)
      | (go_at_call 35; (refine MA.out.mono ?_); rintro e w2 ⟨rfl, B2⟩
         have HB2 := Lib.hid (HB.out.trans (B2.mono HB.out.size))
         have R2 := Lib.hid (show w2.heap[w.heap.size]? = some (.cells C 34 (0, 0)) by rw [B2.block _ (opC.lt_of_row R.out)]; exact R.out)
         have c4 := pkC.PkC.cell R2.out C4.out
         have c31 := pkC.PkC.cell R2.out C31.out
         clear B2))
    go_ret
    exact ⟨ret_bool hv.out.symm, HB2.out⟩
  · have q2 : ¬ (m : Int) ≤ 16384 := by omega
    have d2 : decide ((m : Int) ≤ 16384) = false := decide_eq_false q2
    have hv := Lib.hid (show V = false by rw [HV.out]; simp [*])
    go_enter Tryd.func13, Tryd.ntmps13
    go_upto_region 1 with fail
    rw [← hW]
    clear hW
    go_wp2_with (first
      | go_skip
      | (with_reducible refine atC.at_load 31 3 ?_; refine pkC.wpList_load_partG (by kernel_rfl) 31 (.tmp 3) rfl w.heap.size 7 (by kernel_rfl) L0 _ LP.out Tryd.underlying31 rfl IO0.out ?_)
      | (go_at_call 35; (refine MA.out.mono ?_); rintro e w2 ⟨rfl, B2⟩
         have HB2 := Lib.hid (HB.out.trans (B2.mono HB.out.size))
         have R2 := Lib.hid (show w2.heap[w.heap.size]? = some (.cells C 34 (0, 0)) by rw [B2.block _ (opC.lt_of_row R.out)]; exact R.out)
         have c4 := pkC.PkC.cell R2.out C4.out
         have c31 := pkC.PkC.cell R2.out C31.out
         clear B2))
    go_ret
    exact ⟨ret_bool hv.out.symm, HB2.out⟩
set_option maxRecDepth 100000 in
set_option maxHeartbeats 2000000 in
theorem rmay_any (s : Sg) (A : Option Addr) (n c : Nat) (B : Option Addr) (m d : Nat) (w : World) (ho : s.op.Ok) (hn : s.op.sk.length = n) (hs : Prs w w.heap.size A n s.op.sk) (hm : n ≤ 600) :
    Calls Tryd.prog 14 #[.agg (segV s A n c B m d)] w (Ret w (.bool (mayS s m))) := by
  obtain ⟨W, hW⟩ : ∃ W, W = w.alloc (.cells (segV s A n c B m d) 34) := ⟨_, rfl⟩
  have R := Lib.hid (show W.heap[w.heap.size]? = some (.cells (segV s A n c B m d) 34 (0, 0)) by rw [hW]; exact heap_alloc_new _ _)
  have HB := Lib.hid (show Below w.heap.size w W by rw [hW]; exact alloc_below _ _)
  have MA := Lib.hid (opC.rmay_any s.op A n c W ho hn ((hs.below HB.out).more HB.out.size) hm)
  have hl := ho.lm
  have OC := segC hl A n c B m d
  have C4 := Lib.hid OC.fl
  have C31 := Lib.hid OC.da
  have LP := Lib.hid (pkC.PkC.part R.out OC.op)
  have IO0 := Lib.hid (opt_infoL hl A n c)
  obtain ⟨V, hV⟩ : ∃ V, V = mayS s m := ⟨_, rfl⟩
  rw [← hV]
  unfold mayS at hV
  have HV := Lib.hid hV
  rw [show opC.optV s.op A n c = (optL s.op A n c).toArray from rfl] at MA
  generalize mayB s.op = b0 at *
  generalize s.fl = f at *
  generalize optL s.op A n c = L0 at *
  generalize segV s A n c B m d = C at *
  clear OC hV hl hn hs hm ho
  cases b0
  · have hv := Lib.hid (show V = false by rw [HV.out]; simp [*])
    go_enter Tryd.func14, Tryd.ntmps14
    go_upto_region 1 with fail
    rw [← hW]
    clear hW
    go_wp2_with (first
      | go_skip
      | (with_reducible refine atC.at_load 31 3 ?_; refine pkC.wpList_load_partG (by kernel_rfl) 31 (.tmp 3) rfl w.heap.size 7 (by kernel_rfl) L0 _ LP.out Tryd.underlying31 rfl IO0.out ?_)
      | (go_at_call 36; (refine MA.out.mono ?_); rintro e w2 ⟨rfl, B2⟩
         have HB2 := Lib.hid (HB.out.trans (B2.mono HB.out.size))
         have R2 := Lib.hid (show w2.heap[w.heap.size]? = some (.cells C 34 (0, 0)) by rw [B2.block _ (opC.lt_of_row R.out)]; exact R.out)
         have c4 := pkC.PkC.cell R2.out C4.out
         have c31 := pkC.PkC.cell R2.out C31.out
         clear B2))
    go_ret
    exact ⟨ret_bool hv.out.symm, HB2.out⟩
  by_cases h1 : f ≤ 63
  rotate_left
  · have d1 : decide (f ≤ 63) = false := decide_eq_false h1
    have hv := Lib.hid (show V = false by rw [HV.out]; simp [*])
    go_enter Tryd.func14, Tryd.ntmps14
    go_upto_region 1 with fail
    rw [← hW]
    clear hW
    go_wp2_with (first
      | go_skip
      | (with_reducible refine atC.at_load 31 3 ?_; refine pkC.wpList_load_partG (by kernel_rfl) 31 (.tmp 3) rfl w.heap.size 7 (by kernel_rfl) L0 _ LP.out Tryd.underlying31 rfl IO0.out ?_)
      | (go_at_call 36; (refine MA.out.mono ?_); rintro e w2 ⟨rfl, B2⟩
         have HB2 := Lib.hid (HB.out.trans (B2.mono HB.out.size))
         have R2 := Lib.hid (show w2.heap[w.heap.size]? = some (.cells C 34 (0, 0)) by rw [B2.block _ (opC.lt_of_row R.out)]; exact R.out)
         have c4 := pkC.PkC.cell R2.out C4.out
         have c31 := pkC.PkC.cell R2.out C31.out
         clear B2))
    go_ret
    exact ⟨ret_bool hv.out.symm, HB2.out⟩
  by_cases h2 : m ≤ 16384
  · have q2 : (m : Int) ≤ 16384 := by omega
    have d2 : decide ((m : Int) ≤ 16384) = true := decide_eq_true q2
    have hv := Lib.hid (show V = true by rw [HV.out]; simp [*])
    go_enter Tryd.func14, Tryd.ntmps14
    go_upto_region 1 with fail
    rw [← hW]
    clear hW
    go_wp2_with (first
      | go_skip
      | (with_reducible refine atC.at_load 31 3 ?_; refine pkC.wpList_load_partG (by kernel_rfl) 31 (.tmp 3) rfl w.heap.size 7 (by kernel_rfl) L0 _ LP.out Tryd.underlying31 rfl IO0.out ?_)
      | (go_at_call 36; (refine MA.out.mono ?_); rintro e w2 ⟨rfl, B2⟩
         have HB2 := Lib.hid (HB.out.trans (B2.mono HB.out.size))
         have R2 := Lib.hid (show w2.heap[w.heap.size]? = some (.cells C 34 (0, 0)) by rw [B2.block _ (opC.lt_of_row R.out)]; exact R.out)
         have c4 := pkC.PkC.cell R2.out C4.out
         have c31 := pkC.PkC.cell R2.out C31.out
         clear B2))
    go_ret
    exact ⟨ret_bool hv.out.symm, HB2.out⟩
  · have q2 : ¬ (m : Int) ≤ 16384 := by omega
    have d2 : decide ((m : Int) ≤ 16384) = false := decide_eq_false q2
    have hv := Lib.hid (show V = false by rw [HV.out]; simp [*])
    go_enter Tryd.func14, Tryd.ntmps14
    go_upto_region 1 with fail
    rw [← hW]
    clear hW
    go_wp2_with (first
      | go_skip
      | (with_reducible refine atC.at_load 31 3 ?_; refine pkC.wpList_load_partG (by kernel_rfl) 31 (.tmp 3) rfl w.heap.size 7 (by kernel_rfl) L0 _ LP.out Tryd.underlying31 rfl IO0.out ?_)
      | (go_at_call 36; (refine MA.out.mono ?_); rintro e w2 ⟨rfl, B2⟩
         have HB2 := Lib.hid (HB.out.trans (B2.mono HB.out.size))
         have R2 := Lib.hid (show w2.heap[w.heap.size]? = some (.cells C 34 (0, 0)) by rw [B2.block _ (opC.lt_of_row R.out)]; exact R.out)
         have c4 := pkC.PkC.cell R2.out C4.out
         have c31 := pkC.PkC.cell R2.out C31.out
         clear B2))
    go_ret
    exact ⟨ret_bool hv.out.symm, HB2.out⟩
end Go.Proofs.YtniimgbljhmcoaaDoor.sgC
