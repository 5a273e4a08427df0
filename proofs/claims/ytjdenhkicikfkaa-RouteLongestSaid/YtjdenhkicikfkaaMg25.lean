/-
  4 texts of a proof, joined.
-/
import Derived.Test.YtjdenhkicikfkaaMg24
import Derived.Test.YtjdenhkicikfkaaMg10
import Derived.Test.YtjdenhkicikfkaaRows
import Derived.WalkKit
import Derived.ProofKit
import Derived.OpenShut
import Derived.ShutString
import Derived.ChangeOld
import Derived.Below

/-
  A way is dropped.
-/
namespace Go.Proofs.Ytjdenhkicikfkaa.rtC
open Go.ChangeShapes Go.WideShapes Go.ChangeAt Go.RowKit
open Go.Proofs.Ytjdenhkicikfkaa.memC Go.Proofs.Ytjdenhkicikfkaa.genC Go.Proofs.Ytjdenhkicikfkaa.butC Go.Proofs.Ytjdenhkicikfkaa.freeC Go.Proofs.Ytjdenhkicikfkaa.adC
set_option linter.unusedVariables false
set_option linter.constructorNameAsVariable false
theorem dropE_has {st : List Wy} {y : Wy} (h : hasK st y = true) : dropE st y = 0 := by unfold dropE; rw [h]; rfl
theorem dropE_no {st : List Wy} {y : Wy} (h : hasK st y = false) : dropE st y = 6 := by unfold dropE; rw [h]; rfl
theorem dropS_no {st : List Wy} {y : Wy} (h : hasK st y = false) : dropS st y = st := by
  unfold dropS
  exact List.filter_eq_self.2 fun z hz => by rw [hasK_not h z hz]; rfl
theorem filter_same {st : List Wy} {x y : Wy} (e : kyOf x = kyOf y) : (st.filter fun z => !sameK x z) = dropS st y := by
  unfold dropS
  refine List.filter_congr fun z _ => ?_
  have : sameK x z = sameK y z := by
    cases h : sameK y z
    · rw [sameK_not] at h ⊢; rw [e]; exact h
    · rw [sameK_ky] at h ⊢; rw [e]; exact h
  rw [this]
def drV (t b g7 gn : Nat) (CK CM CX : Array Value) (q : Bool) (ln : Int) : Nat → Value
  | 0 => .pointer (some ⟨t, 0, none⟩)
  | 1 => .pointer (some ⟨t, 0, none⟩)
  | 2 => .pointer (some ⟨t, 1, none⟩)
  | 3 => .map (some b)
  | 4 => .agg CK
  | 5 => .tuple #[.agg CX, .bool q]
  | 6 => .tuple #[.agg CX, .bool q]
  | 7 => .agg CX
  | 8 => .bool q
  | 9 => .pointer (some ⟨gn, 0, none⟩)
  | 11 => .bool q
  | _ => undef
def drT : List (Option Nat) := [none, none, none, none, none, none, none, none, some 9, some 11, none, none, none, none, none, none, some 6, some 0, some 1, some 2, some 3, some 4, some 5, some 7, some 8, none, none, none, none, none, none, none]
set_option maxRecDepth 100000 in
set_option maxHeartbeats 4000000 in
theorem drop_no (w : World) (S : Nat → Prop) (t : Nat) (st : List Wy) (y : Wy) (h : Tb w S t st) (hi : Inv st) (hy : y.Ok) (hk : hasK st y = false) : Calls Try.prog 15 #[.pointer (some ⟨t, 0, none⟩), .agg (adrV y.s y.a), .int .i64 y.len] w (AddR Tb w S t (dropE st y) (dropS st y)) := by
  rw [dropE_no hk, dropS_no hk]
  have hzk := zeroKy
  have hzv := zeroWy
  obtain ⟨b, hT0⟩ := h
  obtain ⟨CA, hCA⟩ : ∃ C, C = (adrK y.s y.a).toArray := ⟨_, rfl⟩
  rw [show adrV y.s y.a = CA from hCA.symm]
  obtain ⟨W, hW⟩ : ∃ W, W = w.alloc (.cells CA 25) := ⟨_, rfl⟩
  obtain ⟨bx, hbx⟩ : ∃ b, b = w.heap.size := ⟨_, rfl⟩
  have HB := Lib.hid (show Below w.heap.size w W by rw [hW]; exact alloc_below _ _)
  have R := Lib.hid (show W.heap[bx]? = some (.cells CA 25 (0, 0)) by rw [hW, hbx]; exact heap_alloc_new _ _)
  have HT := Lib.hid (hT0.below HB.out)
  have MD := Lib.hid (made_any W S t b st HT.out)
  have HY := Lib.hid hy
  have HI := Lib.hid hi
  have IA := Lib.hid (show (Try.prog.info? 25).map (·.size) = some CA.size by rw [hCA, List.size_toArray]; exact adrK_info hy.la)
  obtain ⟨CK, hCK⟩ : ∃ C, C = kyV (kyOf y) := ⟨_, rfl⟩
  have KB := Lib.hid (show Try.prog.built 55 [(0, .agg CA), (1, .int .i64 y.len)] = some CK by rw [hCK, hCA]; exact ky_built (kyOf_ok hy))
  have IK := Lib.hid (show (Try.prog.info? 55).map (·.size) = some CK.size by rw [hCK]; exact kyV_info (kyOf_ok hy))
  have ZK := Lib.hid (show (kyV zKy).size = CK.size by rw [hCK, kyV_size zKy_ok, kyV_size (kyOf_ok hy)])
  have OK := Lib.hid (show CK.all (·.oneCell') = true by rw [hCK]; exact ky_ones _)
  have HCK := Lib.hid hCK
  obtain ⟨ZV, hZV⟩ : ∃ Z, Z = wyV zWy := ⟨_, rfl⟩
  rw [← hZV] at hzv
  have HZV := Lib.hid hZV
  obtain ⟨ZKV, hZK⟩ : ∃ Z, Z = kyV zKy := ⟨_, rfl⟩
  rw [← hZK] at ZK hzk
  obtain ⟨CX, q, LKD, IX, ZX, OX, FACT⟩ := look_of HT.out HI.out HY.out
  rw [← HCK.out] at LKD
  rw [← HZV.out] at ZX
  clear hCA hCK hZV hZK hT0 hi
  have hq : q = false := by
    rcases FACT.out with ⟨-, x, hx, e, -⟩ | ⟨h1, -⟩
    · exact absurd e (hasK_ky hk x hx)
    · exact h1
  subst hq
  clear hk hy FACT
  generalize y.len = ln at *
  go_enter Try.func15, Try.ntmps15
  go_upto_region 1 with fail
  rw [← hW, ← hbx]
  clear hW hbx
  go_upto_region 4 with (first
    | (go_at_call 16; refine MD.out.mono ?_; rintro e w2 ⟨rfl, hw⟩; obtain rfl := hw.symm)
    | (refine wpList_load_row rfl 25 (.tmp 4) rfl bx rfl _ _ _ _ R.out Try.underlying25 rfl IA.out ?_)
    | (with_reducible refine at_build 55 ?_; refine wpList_runG (by kernel_rfl) _ (built_runR (T := 55) (L := [(0, .agg CA), (1, .int .i64 ln)]) rfl rfl KB.out) ?_)
    | (refine wpList_store_row rfl 55 (.tmp 7) (.tmp 15) rfl W.heap.size CK rfl rfl _ _ (heap_alloc_new _ _) IK.out ZK.out OK.out ?_; rw [World.setRow_alloc_new]))
  obtain ⟨W5, hW5⟩ : ∃ W5, W5 = W.alloc (.cells CK 55) := ⟨_, rfl⟩
  obtain ⟨gk, hgk⟩ : ∃ g, g = W.heap.size := ⟨_, rfl⟩
  have RK5 := Lib.hid (show W5.heap[gk]? = some (.cells CK 55 (0, 0)) by rw [hW5, hgk]; exact heap_alloc_new _ _)
  have HB5 := Lib.hid (show Below W.heap.size W W5 by rw [hW5]; exact alloc_below _ _)
  rw [← hW5, ← hgk]
  clear hW5 hgk hzk
  have HT5 := Lib.hid (HT.out.below HB5.out)
  obtain ⟨g7, hg7⟩ : ∃ g, g = gk := ⟨_, rfl⟩
  obtain ⟨CM, hCM⟩ : ∃ C, C = CK := ⟨_, rfl⟩
  have C1 := Lib.hid (fun (w' : World) {m us} (hJ : LkJ W5 9 10 (drV t b g7 W5.heap.size CK CM CX false ln) CX ZV m us w') => hJ.cell (HT5.out.lt t HT5.out.ss) HT5.out.cell)
  have RK := Lib.hid (fun (w' : World) {m us} (hJ : LkJ W5 9 10 (drV t b g7 W5.heap.size CK CM CX false ln) CX ZV m us w') => (hJ.block gk (lt_of_row RK5.out)).trans RK5.out)
  have LK := Lib.hid (fun (w' : World) {m us} (hJ : LkJ W5 9 10 (drV t b g7 W5.heap.size CK CM CX false ln) CX ZV m us w') => LKD.out w' (HT5.out.map.same (hJ.block b (HT5.out.lt b HT5.out.sb))))
  refine with_act fun a0 ha0 => ?_
  have hl : drT.length = a0.tmps.size := by rw [ha0]; rfl
  have k0 : a0.tmps[0]?.getD undef = .pointer (some ⟨t, 0, none⟩) := by rw [ha0]; rfl
  have k7 : a0.tmps[7]?.getD undef = .pointer (some ⟨gk, 0, none⟩) := by rw [ha0]; rfl
  refine wp_region_J (by kernel_rfl) drT (by kernel_rfl) (by kernel_rfl) hl (fun i => undef) (by rw [ha0]; rfl) (LkJ W5 9 10 (drV t b g7 W5.heap.size CK CM CX false ln) CX ZV) (LkJ.start _ _ _ _ _ _ _) ⟨?_, ?_, ?_, ?_, ?_, ?_, ?_, ?_, ?_, ?_, ?_, ?_, trivial⟩ ?_
  · refine stepJ [] (by kernel_rfl) rfl fun m us w' hJ hmi hd => ?_
    have o0 := (frame_old2 (us := us) (a := a0) (show (drT[0]?).join = none from rfl)).trans k0
    generalize frame drT a0 us = fr at *
    exact val_J (v := .pointer (some ⟨t, 0, none⟩)) (w' := w') (by go_simp) (hJ.val_ 0 (by decide) (by decide) _ rfl)
  · refine stepJ [0] (by kernel_rfl) rfl fun m us w' hJ hmi hd => ?_
    have e0 : us 0 = .pointer (some ⟨t, 0, none⟩) := hJ.val 0 (hd 0 (by simp)) (by decide)
    have v0 := (frame_at2 (us := us) hl (show (drT[17]?).join = some 0 from rfl)).trans e0
    generalize frame drT a0 us = fr at *
    exact val_J (v := .pointer (some ⟨t, 0, none⟩)) (w' := w') (by go_simp) (hJ.val_ 1 (by decide) (by decide) _ rfl)
  · refine stepJ [1] (by kernel_rfl) rfl fun m us w' hJ hmi hd => ?_
    have e1 : us 1 = .pointer (some ⟨t, 0, none⟩) := hJ.val 1 (hd 1 (by simp)) (by decide)
    have v1 := (frame_at2 (us := us) hl (show (drT[18]?).join = some 1 from rfl)).trans e1
    generalize frame drT a0 us = fr at *
    exact val_J (v := .pointer (some ⟨t, 1, none⟩)) (w' := w') (by go_simp) (hJ.val_ 2 (by decide) (by decide) _ rfl)
  · refine stepJ [2] (by kernel_rfl) rfl fun m us w' hJ hmi hd => ?_
    have e2 : us 2 = .pointer (some ⟨t, 1, none⟩) := hJ.val 2 (hd 2 (by simp)) (by decide)
    have v2 := (frame_at2 (us := us) hl (show (drT[19]?).join = some 2 from rfl)).trans e2
    have hc := C1.out w' hJ
    generalize frame drT a0 us = fr at *
    exact val_J (v := .map (some b)) (w' := w') (by go_simp) (hJ.val_ 3 (by decide) (by decide) _ rfl)
  · refine stepJ [] (by kernel_rfl) rfl fun m us w' hJ hmi hd => ?_
    have o7 := (frame_old2 (us := us) (a := a0) (show (drT[7]?).join = none from rfl)).trans k7
    have hc := RK.out w' hJ
    generalize frame drT a0 us = fr at *
    exact load_J 55 7 rfl gk o7 _ CK (0, 0) _ hc Try.underlying55 rfl IK.out (hJ.val_ 4 (by decide) (by decide) _ rfl)
  · refine stepJ [3, 4] (by kernel_rfl) rfl fun m us w' hJ hmi hd => ?_
    have e3 : us 3 = .map (some b) := hJ.val 3 (hd 3 (by simp)) (by decide)
    have v3 := (frame_at2 (us := us) hl (show (drT[20]?).join = some 3 from rfl)).trans e3
    have e4 : us 4 = .agg CK := hJ.val 4 (hd 4 (by simp)) (by decide)
    have v4 := (frame_at2 (us := us) hl (show (drT[21]?).join = some 4 from rfl)).trans e4
    have hc := LK.out w' hJ
    generalize frame drT a0 us = fr at *
    exact val_J (v := .tuple #[.agg CX, .bool false]) (w' := w') (look_run rfl v3 v4 hc) (hJ.val_ 5 (by decide) (by decide) _ rfl)
  · refine stepJ [5] (by kernel_rfl) rfl fun m us w' hJ hmi hd => ?_
    have e5 : us 5 = .tuple #[.agg CX, .bool false] := hJ.val 5 (hd 5 (by simp)) (by decide)
    have v5 := (frame_at2 (us := us) hl (show (drT[22]?).join = some 5 from rfl)).trans e5
    generalize frame drT a0 us = fr at *
    exact val_J (v := .tuple #[.agg CX, .bool false]) (w' := w') (by go_simp) (hJ.val_ 6 (by decide) (by decide) _ rfl)
  · refine stepJ [6] (by kernel_rfl) rfl fun m us w' hJ hmi hd => ?_
    have e6 : us 6 = .tuple #[.agg CX, .bool false] := hJ.val 6 (hd 6 (by simp)) (by decide)
    have v6 := (frame_at2 (us := us) hl (show (drT[16]?).join = some 6 from rfl)).trans e6
    generalize frame drT a0 us = fr at *
    exact val_J (v := .agg CX) (w' := w') (by go_simp) (hJ.val_ 7 (by decide) (by decide) _ rfl)
  · refine stepJ [6] (by kernel_rfl) rfl fun m us w' hJ hmi hd => ?_
    have e6 : us 6 = .tuple #[.agg CX, .bool false] := hJ.val 6 (hd 6 (by simp)) (by decide)
    have v6 := (frame_at2 (us := us) hl (show (drT[16]?).join = some 6 from rfl)).trans e6
    generalize frame drT a0 us = fr at *
    exact val_J (v := .bool false) (w' := w') (by go_simp) (hJ.val_ 8 (by decide) (by decide) _ rfl)
  · refine stepJ [] (by kernel_rfl) rfl fun m us w' hJ hmi hd => ?_
    generalize frame drT a0 us = fr at *
    exact val_J (v := .pointer (some ⟨w'.heap.size, 0, none⟩)) (w' := w'.alloc (.cells ZV 35)) (by go_simp) (hJ.all hmi rfl (by decide) (hJ.late hmi))
  · refine stepJ [9, 7] (by kernel_rfl) rfl fun m us w' hJ hmi hd => ?_
    have e9 : us 9 = .pointer (some ⟨W5.heap.size, 0, none⟩) := hJ.val 9 (hd 9 (by simp)) (by decide)
    have v9 := (frame_at2 (us := us) hl (show (drT[8]?).join = some 9 from rfl)).trans e9
    have e7 : us 7 = .agg CX := hJ.val 7 (hd 7 (by simp)) (by decide)
    have v7 := (frame_at2 (us := us) hl (show (drT[23]?).join = some 7 from rfl)).trans e7
    generalize frame drT a0 us = fr at *
    exact store_J 35 8 23 rfl _ CX v9 v7 _ ZV (hJ.rowZ (hd 9 (by simp)) hmi) IX.out ZX.out OX.out (hJ.sto (hd 9 (by simp)) hmi (by decide))
  · refine stepJ [8] (by kernel_rfl) rfl fun m us w' hJ hmi hd => ?_
    have e8 : us 8 = .bool false := hJ.val 8 (hd 8 (by simp)) (by decide)
    have v8 := (frame_at2 (us := us) hl (show (drT[24]?).join = some 8 from rfl)).trans e8
    generalize frame drT a0 us = fr at *
    exact val_J (v := .bool false) (w' := w') (by go_simp) (hJ.val_ 11 (by decide) (by decide) _ rfl)
  · intro m us w6 hm hJ
    have e11 : us 11 = .bool false := hJ.val 11 (hm 11 (by decide)) (by decide)
    have HB6 := Lib.hid hJ.below
    clear hJ hm
    subst ha0
    simp only [Act.put, frame, drT, fill]
    rw [e11]
    have HB60 := Lib.hid (show Below W.heap.size W w6 from HB5.out.trans (HB6.out.mono HB5.out.size))
    have HT6 := Lib.hid (HT.out.below HB60.out)
    have RK6 := Lib.hid (show w6.heap[gk]? = some (.cells CK 55 (0, 0)) from (HB6.out.block gk (lt_of_row RK5.out)).trans RK5.out)
    go_wp2_with fail
    go_ret
    exact ⟨S, rfl, ⟨b, HT6.out⟩, fun k hk => .inl hk, Fs.below (HB.out.trans (HB60.out.mono HB.out.size))⟩
set_option maxRecDepth 100000 in
set_option maxHeartbeats 4000000 in
theorem drop_has (w : World) (S : Nat → Prop) (t : Nat) (st : List Wy) (y : Wy) (h : Tb w S t st) (hi : Inv st) (hy : y.Ok) (hk : hasK st y = true) : Calls Try.prog 15 #[.pointer (some ⟨t, 0, none⟩), .agg (adrV y.s y.a), .int .i64 y.len] w (AddR Tb w S t (dropE st y) (dropS st y)) := by
  rw [dropE_has hk]
  have hzk := zeroKy
  have hzv := zeroWy
  obtain ⟨b, hT0⟩ := h
  obtain ⟨CA, hCA⟩ : ∃ C, C = (adrK y.s y.a).toArray := ⟨_, rfl⟩
  rw [show adrV y.s y.a = CA from hCA.symm]
  obtain ⟨W, hW⟩ : ∃ W, W = w.alloc (.cells CA 25) := ⟨_, rfl⟩
  obtain ⟨bx, hbx⟩ : ∃ b, b = w.heap.size := ⟨_, rfl⟩
  have HB := Lib.hid (show Below w.heap.size w W by rw [hW]; exact alloc_below _ _)
  have R := Lib.hid (show W.heap[bx]? = some (.cells CA 25 (0, 0)) by rw [hW, hbx]; exact heap_alloc_new _ _)
  have HT := Lib.hid (hT0.below HB.out)
  have MD := Lib.hid (made_any W S t b st HT.out)
  have HY := Lib.hid hy
  have HI := Lib.hid hi
  have IA := Lib.hid (show (Try.prog.info? 25).map (·.size) = some CA.size by rw [hCA, List.size_toArray]; exact adrK_info hy.la)
  obtain ⟨CK, hCK⟩ : ∃ C, C = kyV (kyOf y) := ⟨_, rfl⟩
  have KB := Lib.hid (show Try.prog.built 55 [(0, .agg CA), (1, .int .i64 y.len)] = some CK by rw [hCK, hCA]; exact ky_built (kyOf_ok hy))
  have IK := Lib.hid (show (Try.prog.info? 55).map (·.size) = some CK.size by rw [hCK]; exact kyV_info (kyOf_ok hy))
  have ZK := Lib.hid (show (kyV zKy).size = CK.size by rw [hCK, kyV_size zKy_ok, kyV_size (kyOf_ok hy)])
  have OK := Lib.hid (show CK.all (·.oneCell') = true by rw [hCK]; exact ky_ones _)
  have HCK := Lib.hid hCK
  obtain ⟨ZV, hZV⟩ : ∃ Z, Z = wyV zWy := ⟨_, rfl⟩
  rw [← hZV] at hzv
  have HZV := Lib.hid hZV
  obtain ⟨ZKV, hZK⟩ : ∃ Z, Z = kyV zKy := ⟨_, rfl⟩
  rw [← hZK] at ZK hzk
  obtain ⟨CX, q, LKD, IX, ZX, OX, FACT⟩ := look_of HT.out HI.out HY.out
  rw [← HCK.out] at LKD
  rw [← HZV.out] at ZX
  clear hCA hCK hZV hZK hT0 hi
  have HX : Hid (q = true ∧ ∃ x ∈ st, kyOf x = kyOf y) := Lib.hid (by
    rcases FACT.out with ⟨h1, x, hx, e, -⟩ | ⟨-, h2, -⟩
    · exact ⟨h1, x, hx, e⟩
    · obtain ⟨x, hx, e⟩ := hasK_mem hk
      exact absurd e (h2 x hx))
  obtain ⟨hq, x, hx, hxe⟩ := HX.out
  subst hq
  have HXM := Lib.hid hx
  have HXE := Lib.hid hxe
  have HFS := Lib.hid (filter_same (st := st) hxe)
  clear hk hy FACT HX hx hxe
  generalize y.len = ln at *
  go_enter Try.func15, Try.ntmps15
  go_upto_region 1 with fail
  rw [← hW, ← hbx]
  clear hW hbx
  go_upto_region 4 with (first
    | (go_at_call 16; refine MD.out.mono ?_; rintro e w2 ⟨rfl, hw⟩; obtain rfl := hw.symm)
    | (refine wpList_load_row rfl 25 (.tmp 4) rfl bx rfl _ _ _ _ R.out Try.underlying25 rfl IA.out ?_)
    | (with_reducible refine at_build 55 ?_; refine wpList_runG (by kernel_rfl) _ (built_runR (T := 55) (L := [(0, .agg CA), (1, .int .i64 ln)]) rfl rfl KB.out) ?_)
    | (refine wpList_store_row rfl 55 (.tmp 7) (.tmp 15) rfl W.heap.size CK rfl rfl _ _ (heap_alloc_new _ _) IK.out ZK.out OK.out ?_; rw [World.setRow_alloc_new]))
  obtain ⟨W5, hW5⟩ : ∃ W5, W5 = W.alloc (.cells CK 55) := ⟨_, rfl⟩
  obtain ⟨gk, hgk⟩ : ∃ g, g = W.heap.size := ⟨_, rfl⟩
  have RK5 := Lib.hid (show W5.heap[gk]? = some (.cells CK 55 (0, 0)) by rw [hW5, hgk]; exact heap_alloc_new _ _)
  have HB5 := Lib.hid (show Below W.heap.size W W5 by rw [hW5]; exact alloc_below _ _)
  rw [← hW5, ← hgk]
  clear hW5 hgk hzk
  have HT5 := Lib.hid (HT.out.below HB5.out)
  obtain ⟨g7, hg7⟩ : ∃ g, g = gk := ⟨_, rfl⟩
  obtain ⟨CM, hCM⟩ : ∃ C, C = CK := ⟨_, rfl⟩
  have C1 := Lib.hid (fun (w' : World) {m us} (hJ : LkJ W5 9 10 (drV t b g7 W5.heap.size CK CM CX true ln) CX ZV m us w') => hJ.cell (HT5.out.lt t HT5.out.ss) HT5.out.cell)
  have RK := Lib.hid (fun (w' : World) {m us} (hJ : LkJ W5 9 10 (drV t b g7 W5.heap.size CK CM CX true ln) CX ZV m us w') => (hJ.block gk (lt_of_row RK5.out)).trans RK5.out)
  have LK := Lib.hid (fun (w' : World) {m us} (hJ : LkJ W5 9 10 (drV t b g7 W5.heap.size CK CM CX true ln) CX ZV m us w') => LKD.out w' (HT5.out.map.same (hJ.block b (HT5.out.lt b HT5.out.sb))))
  refine with_act fun a0 ha0 => ?_
  have hl : drT.length = a0.tmps.size := by rw [ha0]; rfl
  have k0 : a0.tmps[0]?.getD undef = .pointer (some ⟨t, 0, none⟩) := by rw [ha0]; rfl
  have k7 : a0.tmps[7]?.getD undef = .pointer (some ⟨gk, 0, none⟩) := by rw [ha0]; rfl
  refine wp_region_J (by kernel_rfl) drT (by kernel_rfl) (by kernel_rfl) hl (fun i => undef) (by rw [ha0]; rfl) (LkJ W5 9 10 (drV t b g7 W5.heap.size CK CM CX true ln) CX ZV) (LkJ.start _ _ _ _ _ _ _) ⟨?_, ?_, ?_, ?_, ?_, ?_, ?_, ?_, ?_, ?_, ?_, ?_, trivial⟩ ?_
  · refine stepJ [] (by kernel_rfl) rfl fun m us w' hJ hmi hd => ?_
    have o0 := (frame_old2 (us := us) (a := a0) (show (drT[0]?).join = none from rfl)).trans k0
    generalize frame drT a0 us = fr at *
    exact val_J (v := .pointer (some ⟨t, 0, none⟩)) (w' := w') (by go_simp) (hJ.val_ 0 (by decide) (by decide) _ rfl)
  · refine stepJ [0] (by kernel_rfl) rfl fun m us w' hJ hmi hd => ?_
    have e0 : us 0 = .pointer (some ⟨t, 0, none⟩) := hJ.val 0 (hd 0 (by simp)) (by decide)
    have v0 := (frame_at2 (us := us) hl (show (drT[17]?).join = some 0 from rfl)).trans e0
    generalize frame drT a0 us = fr at *
    exact val_J (v := .pointer (some ⟨t, 0, none⟩)) (w' := w') (by go_simp) (hJ.val_ 1 (by decide) (by decide) _ rfl)
  · refine stepJ [1] (by kernel_rfl) rfl fun m us w' hJ hmi hd => ?_
    have e1 : us 1 = .pointer (some ⟨t, 0, none⟩) := hJ.val 1 (hd 1 (by simp)) (by decide)
    have v1 := (frame_at2 (us := us) hl (show (drT[18]?).join = some 1 from rfl)).trans e1
    generalize frame drT a0 us = fr at *
    exact val_J (v := .pointer (some ⟨t, 1, none⟩)) (w' := w') (by go_simp) (hJ.val_ 2 (by decide) (by decide) _ rfl)
  · refine stepJ [2] (by kernel_rfl) rfl fun m us w' hJ hmi hd => ?_
    have e2 : us 2 = .pointer (some ⟨t, 1, none⟩) := hJ.val 2 (hd 2 (by simp)) (by decide)
    have v2 := (frame_at2 (us := us) hl (show (drT[19]?).join = some 2 from rfl)).trans e2
    have hc := C1.out w' hJ
    generalize frame drT a0 us = fr at *
    exact val_J (v := .map (some b)) (w' := w') (by go_simp) (hJ.val_ 3 (by decide) (by decide) _ rfl)
  · refine stepJ [] (by kernel_rfl) rfl fun m us w' hJ hmi hd => ?_
    have o7 := (frame_old2 (us := us) (a := a0) (show (drT[7]?).join = none from rfl)).trans k7
    have hc := RK.out w' hJ
    generalize frame drT a0 us = fr at *
    exact load_J 55 7 rfl gk o7 _ CK (0, 0) _ hc Try.underlying55 rfl IK.out (hJ.val_ 4 (by decide) (by decide) _ rfl)
  · refine stepJ [3, 4] (by kernel_rfl) rfl fun m us w' hJ hmi hd => ?_
    have e3 : us 3 = .map (some b) := hJ.val 3 (hd 3 (by simp)) (by decide)
    have v3 := (frame_at2 (us := us) hl (show (drT[20]?).join = some 3 from rfl)).trans e3
    have e4 : us 4 = .agg CK := hJ.val 4 (hd 4 (by simp)) (by decide)
    have v4 := (frame_at2 (us := us) hl (show (drT[21]?).join = some 4 from rfl)).trans e4
    have hc := LK.out w' hJ
    generalize frame drT a0 us = fr at *
    exact val_J (v := .tuple #[.agg CX, .bool true]) (w' := w') (look_run rfl v3 v4 hc) (hJ.val_ 5 (by decide) (by decide) _ rfl)
  · refine stepJ [5] (by kernel_rfl) rfl fun m us w' hJ hmi hd => ?_
    have e5 : us 5 = .tuple #[.agg CX, .bool true] := hJ.val 5 (hd 5 (by simp)) (by decide)
    have v5 := (frame_at2 (us := us) hl (show (drT[22]?).join = some 5 from rfl)).trans e5
    generalize frame drT a0 us = fr at *
    exact val_J (v := .tuple #[.agg CX, .bool true]) (w' := w') (by go_simp) (hJ.val_ 6 (by decide) (by decide) _ rfl)
  · refine stepJ [6] (by kernel_rfl) rfl fun m us w' hJ hmi hd => ?_
    have e6 : us 6 = .tuple #[.agg CX, .bool true] := hJ.val 6 (hd 6 (by simp)) (by decide)
    have v6 := (frame_at2 (us := us) hl (show (drT[16]?).join = some 6 from rfl)).trans e6
    generalize frame drT a0 us = fr at *
    exact val_J (v := .agg CX) (w' := w') (by go_simp) (hJ.val_ 7 (by decide) (by decide) _ rfl)
  · refine stepJ [6] (by kernel_rfl) rfl fun m us w' hJ hmi hd => ?_
    have e6 : us 6 = .tuple #[.agg CX, .bool true] := hJ.val 6 (hd 6 (by simp)) (by decide)
    have v6 := (frame_at2 (us := us) hl (show (drT[16]?).join = some 6 from rfl)).trans e6
    generalize frame drT a0 us = fr at *
    exact val_J (v := .bool true) (w' := w') (by go_simp) (hJ.val_ 8 (by decide) (by decide) _ rfl)
  · refine stepJ [] (by kernel_rfl) rfl fun m us w' hJ hmi hd => ?_
    generalize frame drT a0 us = fr at *
    exact val_J (v := .pointer (some ⟨w'.heap.size, 0, none⟩)) (w' := w'.alloc (.cells ZV 35)) (by go_simp) (hJ.all hmi rfl (by decide) (hJ.late hmi))
  · refine stepJ [9, 7] (by kernel_rfl) rfl fun m us w' hJ hmi hd => ?_
    have e9 : us 9 = .pointer (some ⟨W5.heap.size, 0, none⟩) := hJ.val 9 (hd 9 (by simp)) (by decide)
    have v9 := (frame_at2 (us := us) hl (show (drT[8]?).join = some 9 from rfl)).trans e9
    have e7 : us 7 = .agg CX := hJ.val 7 (hd 7 (by simp)) (by decide)
    have v7 := (frame_at2 (us := us) hl (show (drT[23]?).join = some 7 from rfl)).trans e7
    generalize frame drT a0 us = fr at *
    exact store_J 35 8 23 rfl _ CX v9 v7 _ ZV (hJ.rowZ (hd 9 (by simp)) hmi) IX.out ZX.out OX.out (hJ.sto (hd 9 (by simp)) hmi (by decide))
  · refine stepJ [8] (by kernel_rfl) rfl fun m us w' hJ hmi hd => ?_
    have e8 : us 8 = .bool true := hJ.val 8 (hd 8 (by simp)) (by decide)
    have v8 := (frame_at2 (us := us) hl (show (drT[24]?).join = some 8 from rfl)).trans e8
    generalize frame drT a0 us = fr at *
    exact val_J (v := .bool true) (w' := w') (by go_simp) (hJ.val_ 11 (by decide) (by decide) _ rfl)
  · intro m us w6 hm hJ
    have e11 : us 11 = .bool true := hJ.val 11 (hm 11 (by decide)) (by decide)
    have HB6 := Lib.hid hJ.below
    clear hJ hm
    subst ha0
    simp only [Act.put, frame, drT, fill]
    rw [e11]
    have HB60 := Lib.hid (show Below W.heap.size W w6 from HB5.out.trans (HB6.out.mono HB5.out.size))
    have HT6 := Lib.hid (HT.out.below HB60.out)
    have RK6 := Lib.hid (show w6.heap[gk]? = some (.cells CK 55 (0, 0)) from (HB6.out.block gk (lt_of_row RK5.out)).trans RK5.out)
    have c1 := HT6.out.cell
    go_upto_region 7 with fail
    have RKd := Lib.hid (show ∀ w', (∃ j, w' = w6.drewN j) → w'.heap[gk]? = some (.cells CK 55 (0, 0)) by rintro w' ⟨j, rfl⟩; exact RK6.out)
    refine Go.Proofs.Ytjdenhkicikfkaa.lastC.wp_region_lastC (fun w' => ∃ j, w' = w6.drewN j) 5 (by kernel_rfl) (by kernel_rfl) (by kernel_rfl) (by kernel_rfl) ⟨1, rfl⟩ ?_
    simp only [List.take_succ_cons, List.take_zero, List.drop_succ_cons, List.drop_zero]
    repeat (first
      | (refine wpQuiet_row rfl 55 (.tmp 7) rfl gk rfl _ _ _ _ RKd.out Try.underlying55 rfl IK.out ?_)
      | go_big_quiet_step (fail)
      | quiet_step (fail))
    refine wpQuiet_nil ?_
    intro w7 hw7
    obtain ⟨n7, hw8⟩ := hw7
    subst hw8
    simp only [Act.put, List.setIfInBounds_toArray, List.set_cons_succ, List.set_cons_zero]
    refine wpList_delY rfl (.tmp 30) (.tmp 31) rfl rfl rfl (m := x) (by rw [HCK.out, HXE.out]) (HT6.out.map.same (w' := w6.drewN n7) rfl) HI.out.ok HI.out.nd HXM.out fun w8 hM8 hB8 hS8 => ?_
    simp only [Act.put]
    rw [HFS.out] at hM8
    have HM8 := Lib.hid hM8
    have HB8 := Lib.hid (show But b w6 w8 from ⟨hB8.os, hB8.tape, hB8.output, hB8.size, hB8.block⟩)
    clear hM8 hB8 hS8 c1
    go_wp2_with fail
    go_ret
    exact ⟨S, rfl, ⟨b, HT6.out.turn HB8.out HM8.out⟩, fun k hk => .inl hk, (Fs.below (HB.out.trans (HB60.out.mono HB.out.size))).trans (fs_butY HB8.out HT6.out.sb)⟩
theorem cdrop_any (w : World) (S : Nat → Prop) (t : Nat) (st : List Wy) (y : Wy) (h : Tb w S t st) (hi : Inv st) (hy : y.Ok) : Calls Try.prog 15 #[.pointer (some ⟨t, 0, none⟩), .agg (adrV y.s y.a), .int .i64 y.len] w (AddR Tb w S t (dropE st y) (dropS st y)) := by
  cases hk : hasK st y
  · exact drop_no w S t st y h hi hy hk
  · exact drop_has w S t st y h hi hy hk
end Go.Proofs.Ytjdenhkicikfkaa.rtC

/-
  A way is found.
-/
namespace Go.Proofs.Ytjdenhkicikfkaa.rtC
open Go.ChangeShapes Go.WideShapes Go.ChangeAt Go.RowKit
open Go.Proofs.Ytjdenhkicikfkaa.memC Go.Proofs.Ytjdenhkicikfkaa.genC Go.Proofs.Ytjdenhkicikfkaa.butC Go.Proofs.Ytjdenhkicikfkaa.freeC Go.Proofs.Ytjdenhkicikfkaa.adC
set_option linter.unusedVariables false
set_option linter.constructorNameAsVariable false
theorem lies_iff {s : Bool} {a : List Int} {y : Wy} (hy : y.Ok) (hm : mayW y = true) : liesW s a y = true ↔ y.s = s ∧ y.a = mskL a y.len := by
  obtain ⟨h0, h1, h2⟩ := mask_self hy hm
  have e2 : maskO y.s y.a y.len = some (y.s, y.a) := by rw [maskO_some h0 h1, h2]
  unfold liesW liesL
  rw [e2]
  constructor
  · intro h
    rw [Bool.and_eq_true] at h
    obtain ⟨q1, q2⟩ := h
    rw [decide_eq_true_iff] at q2
    rcases maskO_cases s a y.len with e | e
    · rw [e] at q1; cases q1
    · rw [e] at q2
      exact ⟨q2.1.symm, q2.2.symm⟩
  · rintro ⟨e, e1⟩
    have h3 : ¬ 8 * (adrN s : Int) < y.len := by rw [← e]; exact h1
    rw [maskO_some h0 h3, Bool.and_eq_true]
    exact ⟨rfl, decide_eq_true ⟨e.symm, e1.symm⟩⟩
/-- the prefix of an address, of a length -/
def kyN (s : Bool) (a : List Int) (n : Int) : Ky := ⟨s, mskL a n, n⟩
theorem kyN_ok {s : Bool} {a : List Int} {n : Int} (ha : a.length = 16) (ya : ∀ x ∈ a, Byte x) (hn : -1 ≤ n ∧ n ≤ 128) : (kyN s a n).Ok := by
  have h1 := mskL_len n ha
  have h2 := mskL_byte ha ya n
  unfold kyN
  generalize mskL a n = m at *
  exact ⟨h1, h2, by show -9223372036854775808 ≤ n ∧ n ≤ 9223372036854775807; omega⟩
theorem ky_lies {s : Bool} {a : List Int} {n : Int} {y : Wy} (hy : y.Ok) (hm : mayW y = true) : kyOf y = kyN s a n ↔ (liesW s a y = true ∧ y.len = n) := by
  rw [lies_iff hy hm]
  unfold kyOf kyN
  constructor
  · intro h; injection h with h1 h2 h3; exact ⟨⟨h1, by rw [h3]; exact h2⟩, h3⟩
  · rintro ⟨⟨h1, h2⟩, h3⟩; rw [h1, h2, h3]
theorem lies_len {s : Bool} {a : List Int} {y : Wy} (hy : y.Ok) (hm : mayW y = true) (hl : liesW s a y = true) : 0 ≤ y.len ∧ y.len ≤ 8 * (adrN s : Int) := by
  obtain ⟨h0, h1, -⟩ := mask_self hy hm
  rw [((lies_iff hy hm).1 hl).1] at h1
  omega
/-- what is looked up -/
theorem look_ky {w : World} {S : Nat → Prop} {t b : Nat} {st : List Wy} {k : Ky} (hT : TC w S t b st) (hi : Inv st) (hk : k.Ok) : ∃ (CX : Array Value) (q : Bool), Hid (∀ w', MapW w' b st → (Instr.lookup 48 (.map (some b)) (.agg (kyV k)) true).run Try.prog w' = .ok (.tuple #[.agg CX, .bool q]) w') ∧
    Hid ((Try.prog.info? 35).map (·.size) = some CX.size) ∧ Hid ((wyV zWy).size = CX.size) ∧ Hid (CX.all (·.oneCell') = true) ∧ Hid ((q = true ∧ ∃ x ∈ st, kyOf x = k ∧ CX = wyV x) ∨ (q = false ∧ (∀ x ∈ st, kyOf x ≠ k))) := by
  rcases Classical.em (∃ x ∈ st, kyOf x = k) with ⟨x, hx, e⟩ | hn
  · exact ⟨wyV x, true, Lib.hid fun w' hM => (by rw [← e]; exact run_look_some hM hi.ok hi.nd hx), Lib.hid (wyV_info (hi.ok x hx)), Lib.hid (wy_zsize zWy_ok (hi.ok x hx)), Lib.hid (wy_ones _), Lib.hid (.inl ⟨rfl, x, hx, e, rfl⟩)⟩
  · have hn2 : ∀ x ∈ st, kyOf x ≠ k := fun x hx e => hn ⟨x, hx, e⟩
    exact ⟨wyV zWy, false, Lib.hid fun w' hM => run_look_none hM hi.ok hk hn2, Lib.hid (wyV_info zWy_ok), Lib.hid rfl, Lib.hid (wy_ones _), Lib.hid (.inr ⟨rfl, hn2⟩)⟩
def fiV (t b g7 gn : Nat) (CK CM CX : Array Value) (q : Bool) (ln : Int) : Nat → Value
  | 0 => .pointer (some ⟨t, 0, none⟩)
  | 1 => .pointer (some ⟨t, 0, none⟩)
  | 2 => .pointer (some ⟨t, 1, none⟩)
  | 3 => .map (some b)
  | 4 => .agg CM
  | 5 => .int .i64 ln
  | 6 => .agg CK
  | 7 => .tuple #[.agg CX, .bool q]
  | 8 => .tuple #[.agg CX, .bool q]
  | 9 => .agg CX
  | 10 => .bool q
  | 11 => .pointer (some ⟨gn, 0, none⟩)
  | 13 => .bool q
  | _ => undef
def fiT : List (Option Nat) := [none, none, none, none, none, none, none, none, none, some 11, some 13, none, none, none, none, none, none, none, none, none, none, none, none, none, none, none, none, none, none, none, none, none, none, none, none, some 8, some 0, some 1, some 2, some 3, some 4, some 5, some 6, some 7, some 9, some 10, none, none, none]
set_option maxRecDepth 100000 in
set_option maxHeartbeats 8000000 in
theorem find_no (w : World) (S : Nat → Prop) (t : Nat) (st : List Wy) (s : Bool) (a : List Int) (h : Tb w S t st) (hi : Inv st) (ha : a.length = 16) (ya : ∀ x ∈ a, Byte x) (hm : mayL s a = false) : Calls Try.prog 10 #[.pointer (some ⟨t, 0, none⟩), .agg (adrV s a)] w (FindR w st s a) := by
  have hzv := zeroWy
  have hza := zeroAdr
  obtain ⟨b, hT0⟩ := h
  obtain ⟨CA, hCA⟩ : ∃ C, C = adrV s a := ⟨_, rfl⟩
  obtain ⟨ZV, hZV⟩ : ∃ Z, Z = wyV zWy := ⟨_, rfl⟩
  have HZV := Lib.hid hZV
  rw [← hCA]
  rw [← hZV] at hzv
  obtain ⟨W, hW⟩ : ∃ W, W = (w.alloc (.cells CA 25)).alloc (.cells ZV 35) := ⟨_, rfl⟩
  obtain ⟨bx, hbx⟩ : ∃ b, b = w.heap.size := ⟨_, rfl⟩
  have HB := Lib.hid (show Below w.heap.size w W by rw [hW]; exact (alloc_below _ _).trans ((alloc_below _ _).mono (alloc_below _ _).size))
  have R := Lib.hid (show W.heap[bx]? = some (.cells CA 25 (0, 0)) by rw [hW, hbx]; exact (two_rows2 w _ _ _ _).1)
  have RZ := Lib.hid (show W.heap[bx + 1]? = some (.cells ZV 35 (0, 0)) by rw [hW, hbx]; exact (two_rows2 w _ _ _ _).2)
  have HT := Lib.hid (hT0.below HB.out)
  have MD := Lib.hid (made_any W S t b st HT.out)
  have HI := Lib.hid hi
  have HBX := Lib.hid hbx
  have IA := Lib.hid (show (Try.prog.info? 25).map (·.size) = some CA.size by rw [hCA]; exact adr_info s ha)
  have MA := Lib.hid (fun w' => (show Calls Try.prog 18 #[.agg CA] w' (Ret w' (.bool (mayL s a))) by rw [hCA]; exact cmay_any s a w' ha))
  have BY := Lib.hid (fun w' => (show Calls Try.prog 19 #[.agg CA] w' (BytRet w' (adrL s a)) by rw [hCA]; exact cbytes_any s a w' ha))
  have MK := Lib.hid (fun w' (n : Int) => (show Calls Try.prog 20 #[.agg CA, .int .i64 n] w' (ORet 1 w' (maskO s a n)) by rw [hCA]; exact mask_any s a n w' ha ya))
  have ZI := Lib.hid (show (Try.prog.info? 35).map (·.size) = some ZV.size by rw [hZV]; exact wyV_info zWy_ok)
  have ZO := Lib.hid (show ZV.all (·.oneCell') = true by rw [hZV]; exact wy_ones _)
  have ZB := Lib.hid (show Try.prog.built 35 [] = some ZV by rw [hZV]; exact built_zWy)
  have HA := Lib.hid (show a.length = 16 ∧ ∀ x ∈ a, Byte x from ⟨ha, ya⟩)
  have HAL := Lib.hid (adrL_len (six := s) ha)
  clear hT0 hi ha ya hCA hZV
  rw [hm] at MA
  have HM := Lib.hid hm
  clear hm
  go_enter Try.func10, Try.ntmps10
  go_upto_region 1 with fail
  rw [← hW, ← hbx]
  clear hW hbx
  go_wp2_with (first
    | (go_at_call 16; refine MD.out.mono ?_; rintro e w2 ⟨rfl, hw⟩; obtain rfl := hw.symm)
    | (refine wpList_load_row rfl 25 (.tmp 3) rfl bx rfl _ _ _ _ R.out Try.underlying25 rfl IA.out ?_)
    | (go_at_call 18; refine (MA.out _).mono ?_; rintro e w3 ⟨rfl, hb⟩; have HB3 := Lib.hid hb; clear hb
       have R3 := Lib.hid ((HB3.out.block bx (lt_of_row R.out)).trans R.out)
       have RZ3 := Lib.hid ((HB3.out.block (bx + 1) (lt_of_row RZ.out)).trans RZ.out))
    | (with_reducible refine at_build 35 ?_; refine wpList_runG (by kernel_rfl) _ (adC.built_run (T := 35) (C := ZV) rfl ZB.out) ?_)
    | (refine wpList_store_row rfl 35 (.tmp 4) (.tmp 20) rfl (bx + 1) ZV rfl rfl _ _ RZ3.out ZI.out rfl ZO.out ?_))
  refine bodyPost_ret (v := .tuple #[.agg ZV, .int .i64 1]) (adC.results_cell_tmp Try.results10 _ _ (bx + 1) _ _ _ _ _ (by rfl) (setRow_heap _ _ _ _ _ _ RZ3.out) Try.underlying35 rfl ZI.out (by rfl)) rfl ?_
  exact ⟨zWy, 1, by rw [HZV.out], .inl ⟨HM.out, rfl, rfl⟩, setR_below (HB.out.trans (HB3.out.mono HB.out.size)) (by rw [HBX.out]; exact Nat.le_succ _) _⟩
set_option maxRecDepth 100000 in
set_option maxHeartbeats 8000000 in
theorem find_may (w : World) (S : Nat → Prop) (t : Nat) (st : List Wy) (s : Bool) (a : List Int) (h : Tb w S t st) (hi : Inv st) (ha : a.length = 16) (ya : ∀ x ∈ a, Byte x) (hm : mayL s a = true) : Calls Try.prog 10 #[.pointer (some ⟨t, 0, none⟩), .agg (adrV s a)] w (FindR w st s a) := by
  have hzv := zeroWy
  have hza := zeroAdr
  obtain ⟨b, hT0⟩ := h
  obtain ⟨CA, hCA⟩ : ∃ C, C = adrV s a := ⟨_, rfl⟩
  obtain ⟨ZV, hZV⟩ : ∃ Z, Z = wyV zWy := ⟨_, rfl⟩
  have HZV := Lib.hid hZV
  rw [← hCA]
  rw [← hZV] at hzv
  obtain ⟨W, hW⟩ : ∃ W, W = (w.alloc (.cells CA 25)).alloc (.cells ZV 35) := ⟨_, rfl⟩
  obtain ⟨bx, hbx⟩ : ∃ b, b = w.heap.size := ⟨_, rfl⟩
  have HB := Lib.hid (show Below w.heap.size w W by rw [hW]; exact (alloc_below _ _).trans ((alloc_below _ _).mono (alloc_below _ _).size))
  have R := Lib.hid (show W.heap[bx]? = some (.cells CA 25 (0, 0)) by rw [hW, hbx]; exact (two_rows2 w _ _ _ _).1)
  have RZ := Lib.hid (show W.heap[bx + 1]? = some (.cells ZV 35 (0, 0)) by rw [hW, hbx]; exact (two_rows2 w _ _ _ _).2)
  have HT := Lib.hid (hT0.below HB.out)
  have MD := Lib.hid (made_any W S t b st HT.out)
  have HI := Lib.hid hi
  have HBX := Lib.hid hbx
  have IA := Lib.hid (show (Try.prog.info? 25).map (·.size) = some CA.size by rw [hCA]; exact adr_info s ha)
  have MA := Lib.hid (fun w' => (show Calls Try.prog 18 #[.agg CA] w' (Ret w' (.bool (mayL s a))) by rw [hCA]; exact cmay_any s a w' ha))
  have BY := Lib.hid (fun w' => (show Calls Try.prog 19 #[.agg CA] w' (BytRet w' (adrL s a)) by rw [hCA]; exact cbytes_any s a w' ha))
  have MK := Lib.hid (fun w' (n : Int) => (show Calls Try.prog 20 #[.agg CA, .int .i64 n] w' (ORet 1 w' (maskO s a n)) by rw [hCA]; exact mask_any s a n w' ha ya))
  have ZI := Lib.hid (show (Try.prog.info? 35).map (·.size) = some ZV.size by rw [hZV]; exact wyV_info zWy_ok)
  have ZO := Lib.hid (show ZV.all (·.oneCell') = true by rw [hZV]; exact wy_ones _)
  have ZB := Lib.hid (show Try.prog.built 35 [] = some ZV by rw [hZV]; exact built_zWy)
  have HA := Lib.hid (show a.length = 16 ∧ ∀ x ∈ a, Byte x from ⟨ha, ya⟩)
  have HAL := Lib.hid (adrL_len (six := s) ha)
  clear hT0 hi ha ya hCA hZV
  rw [hm] at MA
  have HM := Lib.hid hm
  clear hm
  go_enter Try.func10, Try.ntmps10
  go_upto_region 1 with fail
  rw [← hW, ← hbx]
  clear hW hbx
  go_wp2_with (first
    | (go_at_call 16; refine MD.out.mono ?_; rintro e w2 ⟨rfl, hw⟩; obtain rfl := hw.symm)
    | (refine wpList_load_row rfl 25 (.tmp 3) rfl bx rfl _ _ _ _ R.out Try.underlying25 rfl IA.out ?_)
    | (go_at_call 18; refine (MA.out _).mono ?_; rintro e w3 ⟨rfl, hb⟩; have HB3 := Lib.hid hb; clear hb
       have R3 := Lib.hid ((HB3.out.block bx (lt_of_row R.out)).trans R.out)
       have RZ3 := Lib.hid ((HB3.out.block (bx + 1) (lt_of_row RZ.out)).trans RZ.out))
    | (refine wpList_load_row rfl 25 (.tmp 3) rfl bx rfl _ _ _ _ R3.out Try.underlying25 rfl IA.out ?_)
    | (go_at_call 19; refine (BY.out _).mono ?_; rintro e w4 ⟨A4, n4, c4, rfl, g1, -, -, -, hb⟩
       have HB4 := Lib.hid hb
       have HN4 := Lib.hid (show n4 = adrN s by rw [← g1]; exact HAL.out)
       have wm : IntKind.i64.wrap (8 * (n4 : Int)) = 8 * (n4 : Int) := IntWalk.i64_in _ (by have := adrN_le s; have := HN4.out; omega)
       clear hb g1))
  have HB40 := Lib.hid (show Below W.heap.size W w4 from HB3.out.trans (HB4.out.mono HB3.out.size))
  obtain ⟨z0, hz0⟩ : ∃ z : Int, z = 8 * (n4 : Int) := ⟨_, rfl⟩
  have HZ0 := Lib.hid (show z0 = 8 * (adrN s : Int) by rw [hz0, HN4.out])
  rw [← hz0]
  clear hz0 wm
  go_loopw [6] (fun u wr => ∃ z : Int, u = .int .i64 z ∧ -1 ≤ z ∧ z ≤ 8 * (adrN s : Int) ∧ (∀ y ∈ st, liesW s a y = true → y.len ≤ z) ∧ Below W.heap.size W wr) (fun u _ => (intOf u + 2).toNat)
  case atStart => exact ⟨z0, rfl, by rw [HZ0.out]; omega, by rw [HZ0.out]; exact Int.le_refl _, fun y hy hl => by rw [HZ0.out]; exact (lies_len (HI.out.ok y hy) (HI.out.may y hy) hl).2, HB40.out⟩
  case round =>
    obtain ⟨ln, rfl, hz1, hz2, hall, hb⟩ := hrel
    have HBR := Lib.hid hb
    have HALL := Lib.hid hall
    have HZR := Lib.hid (show -1 ≤ ln ∧ ln ≤ 8 * (adrN s : Int) from ⟨hz1, hz2⟩)
    have HZM := Lib.hid (show ln ≤ 128 by have := adrN_le s; omega)
    clear hb hall hz1 hz2
    by_cases hneg : ln < 0
    · have q : ¬ 0 ≤ ln := by omega
      have qd : decide (0 ≤ ln) = false := decide_eq_false q
      have RZR := Lib.hid ((HBR.out.block (bx + 1) (lt_of_row RZ.out)).trans RZ.out)
      have HNO := Lib.hid (show ∀ y ∈ st, liesW s a y = false from fun y hy => by
        cases e : liesW s a y
        · rfl
        · have h1 := (lies_len (HI.out.ok y hy) (HI.out.may y hy) e).1
          have h2 := HALL.out y hy e
          omega)
      clear hneg
      go_wp2_with (first
        | (with_reducible refine at_build 35 ?_; refine wpList_runG (by kernel_rfl) _ (adC.built_run (T := 35) (C := ZV) rfl ZB.out) ?_)
        | (refine wpList_store_row rfl 35 (.tmp 4) (.tmp 48) rfl (bx + 1) ZV rfl rfl _ _ RZR.out ZI.out rfl ZO.out ?_))
      refine bodyPost_ret (v := .tuple #[.agg ZV, .int .i64 17]) (adC.results_cell_tmp Try.results10 _ _ (bx + 1) _ _ _ _ _ (by rfl) (setRow_heap _ _ _ _ _ _ RZR.out) Try.underlying35 rfl ZI.out (by rfl)) rfl ?_
      exact ⟨zWy, 17, by rw [HZV.out], .inr (.inl ⟨HM.out, HNO.out, rfl, rfl⟩), setR_below (HB.out.trans (HBR.out.mono HB.out.size)) (by rw [HBX.out]; exact Nat.le_succ _) _⟩
    · have q : 0 ≤ ln := by omega
      have HQ := Lib.hid q
      clear hneg
      obtain ⟨M, hM⟩ : ∃ M, M = mskL a ln := ⟨_, rfl⟩
      have HM1 := Lib.hid (show M.length = 16 by rw [hM]; exact mskL_len ln HA.out.1)
      have HM2 := Lib.hid (show ∀ x ∈ M, Byte x by rw [hM]; exact mskL_byte HA.out.1 HA.out.2 ln)
      have HKN := Lib.hid (show (⟨s, M, ln⟩ : Ky) = kyN s a ln by rw [hM]; rfl)
      have MK1 := Lib.hid (fun w' => (show Calls Try.prog 20 #[.agg CA, .int .i64 ln] w' fun e w'' => e = .returned (.tuple #[.agg (adrV s M), .int .i64 0]) ∧ Below w'.heap.size w' w'' by
        have h9 := MK.out w' ln
        rw [maskO_some (by have := HQ.out; omega) (by have := HZR.out.2; omega), ← hM] at h9
        exact h9))
      clear hM
      obtain ⟨K, hK⟩ : ∃ K : Ky, K = ⟨s, M, ln⟩ := ⟨_, rfl⟩
      have HKO := Lib.hid (show K.Ok by rw [hK]; exact ⟨HM1.out, HM2.out, by show -9223372036854775808 ≤ ln ∧ ln ≤ 9223372036854775807; have := HZR.out; have := HZM.out; omega⟩)
      obtain ⟨CM, hCM⟩ : ∃ C, C = adrV s M := ⟨_, rfl⟩
      rw [← hCM] at MK1
      have KB := Lib.hid (show Try.prog.built 55 [(0, .agg CM), (1, .int .i64 ln)] = some (kyV K) by
        have h9 := ky_built HKO.out
        rw [hK] at h9 ⊢
        rw [hCM]
        exact h9)
      obtain ⟨CK, hCK⟩ : ∃ C, C = kyV K := ⟨_, rfl⟩
      rw [← hCK] at KB
      have IM := Lib.hid (show (Try.prog.info? 25).map (·.size) = some CM.size by rw [hCM]; exact adr_info s HM1.out)
      have SM := Lib.hid (show zAdr.size = CM.size by rw [hCM]; exact z_size s HM1.out)
      have OM := Lib.hid (show CM.all (·.oneCell') = true by rw [hCM]; exact adrV_one _ _)
      obtain ⟨CX, q5, LKD, IX, ZX, OX, FACT⟩ := look_ky (HT.out.below HBR.out) HI.out HKO.out
      rw [← hCK] at LKD
      rw [← HZV.out] at ZX
      rw [hK, HKN.out] at FACT
      have RR := Lib.hid ((HBR.out.block bx (lt_of_row R.out)).trans R.out)
      clear hCK hCM hK
      go_upto_region 9 with (first
        | (refine wpList_load_row rfl 25 (.tmp 3) rfl bx rfl _ _ _ _ RR.out Try.underlying25 rfl IA.out ?_)
        | (go_at_call 20; refine (MK1.out _).mono ?_; rintro e w5 ⟨rfl, hb⟩; have HB5 := Lib.hid hb; clear hb)
        | (refine wpList_store_row rfl 25 (.tmp 7) (.tmp 33) rfl w5.heap.size CM rfl rfl _ _ (heap_alloc_new _ _) IM.out SM.out OM.out ?_; rw [World.setRow_alloc_new]))
      obtain ⟨W7, hW7⟩ : ∃ W7, W7 = w5.alloc (.cells CM 25) := ⟨_, rfl⟩
      obtain ⟨g7, hg7⟩ : ∃ g, g = w5.heap.size := ⟨_, rfl⟩
      have RM7 := Lib.hid (show W7.heap[g7]? = some (.cells CM 25 (0, 0)) by rw [hW7, hg7]; exact heap_alloc_new _ _)
      have HB7 := Lib.hid (show Below W.heap.size W W7 by rw [hW7]; exact (HBR.out.trans (HB5.out.mono HBR.out.size)).trans ((alloc_below _ _).mono (HBR.out.trans (HB5.out.mono HBR.out.size)).size))
      rw [← hW7, ← hg7]
      clear hW7 hg7
      have HT7 := Lib.hid (HT.out.below HB7.out)
      have C1 := Lib.hid (fun (w' : World) {m us} (hJ : LkJ W7 11 12 (fiV t b g7 W7.heap.size CK CM CX q5 ln) CX ZV m us w') => hJ.cell (HT7.out.lt t HT7.out.ss) HT7.out.cell)
      have RM := Lib.hid (fun (w' : World) {m us} (hJ : LkJ W7 11 12 (fiV t b g7 W7.heap.size CK CM CX q5 ln) CX ZV m us w') => (hJ.block g7 (lt_of_row RM7.out)).trans RM7.out)
      have LK := Lib.hid (fun (w' : World) {m us} (hJ : LkJ W7 11 12 (fiV t b g7 W7.heap.size CK CM CX q5 ln) CX ZV m us w') => LKD.out w' (HT7.out.map.same (hJ.block b (HT7.out.lt b HT7.out.sb))))
      refine with_act fun a0 ha0 => ?_
      have hl : fiT.length = a0.tmps.size := by rw [ha0]; rfl
      have k0 : a0.tmps[0]?.getD undef = .pointer (some ⟨t, 0, none⟩) := by rw [ha0]; rfl
      have k7 : a0.tmps[7]?.getD undef = .pointer (some ⟨g7, 0, none⟩) := by rw [ha0]; rfl
      have k6 : a0.tmps[6]?.getD undef = .int .i64 ln := by rw [ha0]; rfl
      refine wp_region_J (by kernel_rfl) fiT (by kernel_rfl) (by kernel_rfl) hl (fun i => if i = 0 then a0.tmps[36]?.getD undef else if i = 1 then a0.tmps[37]?.getD undef else if i = 2 then a0.tmps[38]?.getD undef else if i = 3 then a0.tmps[39]?.getD undef else if i = 4 then a0.tmps[40]?.getD undef else if i = 5 then a0.tmps[41]?.getD undef else if i = 6 then a0.tmps[42]?.getD undef else if i = 7 then a0.tmps[43]?.getD undef else if i = 8 then a0.tmps[35]?.getD undef else if i = 9 then a0.tmps[44]?.getD undef else if i = 10 then a0.tmps[45]?.getD undef else if i = 11 then a0.tmps[9]?.getD undef else if i = 13 then a0.tmps[10]?.getD undef else undef) (by rw [ha0]; rfl) (LkJ W7 11 12 (fiV t b g7 W7.heap.size CK CM CX q5 ln) CX ZV) (LkJ.start _ _ _ _ _ _ _) ⟨?_, ?_, ?_, ?_, ?_, ?_, ?_, ?_, ?_, ?_, ?_, ?_, ?_, ?_, trivial⟩ ?_
      · refine stepJ [] (by kernel_rfl) rfl fun m us w' hJ hmi hd => ?_
        have o0 := (frame_old2 (us := us) (a := a0) (show (fiT[0]?).join = none from rfl)).trans k0
        generalize frame fiT a0 us = fr at *
        exact val_J (v := .pointer (some ⟨t, 0, none⟩)) (w' := w') (by go_simp) (hJ.val_ 0 (by decide) (by decide) _ rfl)
      · refine stepJ [0] (by kernel_rfl) rfl fun m us w' hJ hmi hd => ?_
        have e0 : us 0 = .pointer (some ⟨t, 0, none⟩) := hJ.val 0 (hd 0 (by simp)) (by decide)
        have v0 := (frame_at2 (us := us) hl (show (fiT[36]?).join = some 0 from rfl)).trans e0
        generalize frame fiT a0 us = fr at *
        exact val_J (v := .pointer (some ⟨t, 0, none⟩)) (w' := w') (by go_simp) (hJ.val_ 1 (by decide) (by decide) _ rfl)
      · refine stepJ [1] (by kernel_rfl) rfl fun m us w' hJ hmi hd => ?_
        have e1 : us 1 = .pointer (some ⟨t, 0, none⟩) := hJ.val 1 (hd 1 (by simp)) (by decide)
        have v1 := (frame_at2 (us := us) hl (show (fiT[37]?).join = some 1 from rfl)).trans e1
        generalize frame fiT a0 us = fr at *
        exact val_J (v := .pointer (some ⟨t, 1, none⟩)) (w' := w') (by go_simp) (hJ.val_ 2 (by decide) (by decide) _ rfl)
      · refine stepJ [2] (by kernel_rfl) rfl fun m us w' hJ hmi hd => ?_
        have e2 : us 2 = .pointer (some ⟨t, 1, none⟩) := hJ.val 2 (hd 2 (by simp)) (by decide)
        have v2 := (frame_at2 (us := us) hl (show (fiT[38]?).join = some 2 from rfl)).trans e2
        have hc := C1.out w' hJ
        generalize frame fiT a0 us = fr at *
        exact val_J (v := .map (some b)) (w' := w') (by go_simp) (hJ.val_ 3 (by decide) (by decide) _ rfl)
      · refine stepJ [] (by kernel_rfl) rfl fun m us w' hJ hmi hd => ?_
        have o7 := (frame_old2 (us := us) (a := a0) (show (fiT[7]?).join = none from rfl)).trans k7
        have hc := RM.out w' hJ
        generalize frame fiT a0 us = fr at *
        exact load_J 25 7 rfl g7 o7 _ CM (0, 0) _ hc Try.underlying25 rfl IM.out (hJ.val_ 4 (by decide) (by decide) _ rfl)
      · refine stepJ [] (by kernel_rfl) rfl fun m us w' hJ hmi hd => ?_
        have o6 := (frame_old2 (us := us) (a := a0) (show (fiT[6]?).join = none from rfl)).trans k6
        generalize frame fiT a0 us = fr at *
        exact val_J (v := .int .i64 ln) (w' := w') (by go_simp) (hJ.val_ 5 (by decide) (by decide) _ rfl)
      · refine stepJ [4, 5] (by kernel_rfl) rfl fun m us w' hJ hmi hd => ?_
        have e4 : us 4 = .agg CM := hJ.val 4 (hd 4 (by simp)) (by decide)
        have v4 := (frame_at2 (us := us) hl (show (fiT[40]?).join = some 4 from rfl)).trans e4
        have e5 : us 5 = .int .i64 ln := hJ.val 5 (hd 5 (by simp)) (by decide)
        have v5 := (frame_at2 (us := us) hl (show (fiT[41]?).join = some 5 from rfl)).trans e5
        generalize frame fiT a0 us = fr at *
        exact val_J (v := .agg CK) (w' := w') (built_runR (T := 55) (L := [(0, .agg CM), (1, .int .i64 ln)]) rfl (by show [(0, fr.eval (.tmp 40)), (1, fr.eval (.tmp 41))] = _; rw [ev_tmp v4, ev_tmp v5]) KB.out) (hJ.val_ 6 (by decide) (by decide) _ rfl)
      · refine stepJ [3, 6] (by kernel_rfl) rfl fun m us w' hJ hmi hd => ?_
        have e3 : us 3 = .map (some b) := hJ.val 3 (hd 3 (by simp)) (by decide)
        have v3 := (frame_at2 (us := us) hl (show (fiT[39]?).join = some 3 from rfl)).trans e3
        have e6 : us 6 = .agg CK := hJ.val 6 (hd 6 (by simp)) (by decide)
        have v6 := (frame_at2 (us := us) hl (show (fiT[42]?).join = some 6 from rfl)).trans e6
        have hc := LK.out w' hJ
        generalize frame fiT a0 us = fr at *
        exact val_J (v := .tuple #[.agg CX, .bool q5]) (w' := w') (look_run rfl v3 v6 hc) (hJ.val_ 7 (by decide) (by decide) _ rfl)
      · refine stepJ [7] (by kernel_rfl) rfl fun m us w' hJ hmi hd => ?_
        have e7 : us 7 = .tuple #[.agg CX, .bool q5] := hJ.val 7 (hd 7 (by simp)) (by decide)
        have v7 := (frame_at2 (us := us) hl (show (fiT[43]?).join = some 7 from rfl)).trans e7
        generalize frame fiT a0 us = fr at *
        exact val_J (v := .tuple #[.agg CX, .bool q5]) (w' := w') (by go_simp) (hJ.val_ 8 (by decide) (by decide) _ rfl)
      · refine stepJ [8] (by kernel_rfl) rfl fun m us w' hJ hmi hd => ?_
        have e8 : us 8 = .tuple #[.agg CX, .bool q5] := hJ.val 8 (hd 8 (by simp)) (by decide)
        have v8 := (frame_at2 (us := us) hl (show (fiT[35]?).join = some 8 from rfl)).trans e8
        generalize frame fiT a0 us = fr at *
        exact val_J (v := .agg CX) (w' := w') (by go_simp) (hJ.val_ 9 (by decide) (by decide) _ rfl)
      · refine stepJ [8] (by kernel_rfl) rfl fun m us w' hJ hmi hd => ?_
        have e8 : us 8 = .tuple #[.agg CX, .bool q5] := hJ.val 8 (hd 8 (by simp)) (by decide)
        have v8 := (frame_at2 (us := us) hl (show (fiT[35]?).join = some 8 from rfl)).trans e8
        generalize frame fiT a0 us = fr at *
        exact val_J (v := .bool q5) (w' := w') (by go_simp) (hJ.val_ 10 (by decide) (by decide) _ rfl)
      · refine stepJ [] (by kernel_rfl) rfl fun m us w' hJ hmi hd => ?_
        generalize frame fiT a0 us = fr at *
        exact val_J (v := .pointer (some ⟨w'.heap.size, 0, none⟩)) (w' := w'.alloc (.cells ZV 35)) (by go_simp) (hJ.all hmi rfl (by decide) (hJ.late hmi))
      · refine stepJ [11, 9] (by kernel_rfl) rfl fun m us w' hJ hmi hd => ?_
        have e11 : us 11 = .pointer (some ⟨W7.heap.size, 0, none⟩) := hJ.val 11 (hd 11 (by simp)) (by decide)
        have v11 := (frame_at2 (us := us) hl (show (fiT[9]?).join = some 11 from rfl)).trans e11
        have e9 : us 9 = .agg CX := hJ.val 9 (hd 9 (by simp)) (by decide)
        have v9 := (frame_at2 (us := us) hl (show (fiT[44]?).join = some 9 from rfl)).trans e9
        generalize frame fiT a0 us = fr at *
        exact store_J 35 9 44 rfl _ CX v11 v9 _ ZV (hJ.rowZ (hd 11 (by simp)) hmi) IX.out ZX.out OX.out (hJ.sto (hd 11 (by simp)) hmi (by decide))
      · refine stepJ [10] (by kernel_rfl) rfl fun m us w' hJ hmi hd => ?_
        have e10 : us 10 = .bool q5 := hJ.val 10 (hd 10 (by simp)) (by decide)
        have v10 := (frame_at2 (us := us) hl (show (fiT[45]?).join = some 10 from rfl)).trans e10
        generalize frame fiT a0 us = fr at *
        exact val_J (v := .bool q5) (w' := w') (by go_simp) (hJ.val_ 13 (by decide) (by decide) _ rfl)
      · intro m us w6 hm hJ
        have e13 : us 13 = .bool q5 := hJ.val 13 (hm 13 (by decide)) (by decide)
        have e11 : us 11 = .pointer (some ⟨W7.heap.size, 0, none⟩) := hJ.val 11 (hm 11 (by decide)) (by decide)
        have hrow6 := hJ.row (hm 11 (by decide))
        rw [hm 12 (by decide)] at hrow6
        have R6 := Lib.hid (show w6.heap[W7.heap.size]? = some (.cells CX 35 (0, 0)) from hrow6)
        have HB6 := Lib.hid (HB7.out.trans (hJ.below.mono HB7.out.size))
        have RZ6 := Lib.hid ((HB6.out.block (bx + 1) (lt_of_row RZ.out)).trans RZ.out)
        clear hJ hm hrow6
        subst ha0
        simp only [frame, fiT, fill]
        rw [e13, e11]
        generalize W7.heap.size = g9 at *
        rcases FACT.out with ⟨e5, x, hx, hxe, hCX⟩ | ⟨e5, hn⟩
        · subst e5
          have HF := Lib.hid (show x ∈ st ∧ liesW s a x = true ∧ (∀ y ∈ st, liesW s a y = true → y.len ≤ x.len) ∧ CX = wyV x from by
            obtain ⟨l1, l2⟩ := (ky_lies (HI.out.ok x hx) (HI.out.may x hx)).1 hxe
            exact ⟨hx, l1, fun y hy hl => by rw [l2]; exact HALL.out y hy hl, hCX⟩)
          clear hx hxe hCX
          go_wp2_with (first
            | (refine wpList_load_row rfl 35 (.tmp 9) rfl g9 rfl _ _ _ _ R6.out Try.underlying35 rfl IX.out ?_)
            | (refine wpList_store_row rfl 35 (.tmp 4) (.tmp 47) rfl (bx + 1) CX rfl rfl _ _ RZ6.out IX.out ZX.out OX.out ?_))
          refine bodyPost_ret (v := .tuple #[.agg CX, .int .i64 0]) (adC.results_cell_tmp Try.results10 _ _ (bx + 1) _ _ _ _ _ (by rfl) (setRow_heap _ _ _ _ _ _ RZ6.out) Try.underlying35 rfl IX.out (by rfl)) rfl ?_
          exact ⟨x, 0, by rw [HF.out.2.2.2], .inr (.inr ⟨HM.out, HF.out.1, HF.out.2.1, HF.out.2.2.1, rfl⟩), setR_below (HB.out.trans (HB6.out.mono HB.out.size)) (by rw [HBX.out]; exact Nat.le_succ _) _⟩
        · subst e5
          have HF := Lib.hid (show ∀ y ∈ st, liesW s a y = true → y.len ≤ ln - 1 from fun y hy hl => by
            have h1 := HALL.out y hy hl
            have h2 : y.len ≠ ln := fun e => hn y hy ((ky_lies (HI.out.ok y hy) (HI.out.may y hy)).2 ⟨hl, e⟩)
            omega)
          obtain ⟨l1, hl1⟩ : ∃ l1, l1 = ln - 1 := ⟨_, rfl⟩
          have hsub : ln - (1 : Int) = l1 := hl1.symm
          have wsub : IntKind.i64.wrap l1 = l1 := IntWalk.i64_in _ (by have := HZR.out; have := HZM.out; omega)
          have HL1 := Lib.hid hl1
          clear hn hl1
          go_wp2_with fail
          go_roundw
          case rel => exact ⟨l1, rfl, by have := HL1.out; have := HQ.out; omega, by have := HL1.out; have := HZR.out; omega, by rw [HL1.out]; exact HF.out, HB6.out⟩
          case measure => have := HL1.out; have := HQ.out; simp [intOf] <;> omega
theorem cfind_any (w : World) (S : Nat → Prop) (t : Nat) (st : List Wy) (s : Bool) (a : List Int) (h : Tb w S t st) (hi : Inv st) (ha : a.length = 16) (ya : ∀ x ∈ a, Byte x) : Calls Try.prog 10 #[.pointer (some ⟨t, 0, none⟩), .agg (adrV s a)] w (FindR w st s a) := by
  cases hm : mayL s a
  · exact find_no w S t st s a h hi ha ya hm
  · exact find_may w S t st s a h hi ha ya hm
end Go.Proofs.Ytjdenhkicikfkaa.rtC

/-
  What the laws ask of the program's functions.
-/
namespace Go.Proofs.Ytjdenhkicikfkaa.rtC
open Go.ChangeShapes Go.WideShapes Go.ChangeAt Go.RowKit
open Go.Proofs.Ytjdenhkicikfkaa.memC Go.Proofs.Ytjdenhkicikfkaa.genC Go.Proofs.Ytjdenhkicikfkaa.butC Go.Proofs.Ytjdenhkicikfkaa.freeC Go.Proofs.Ytjdenhkicikfkaa.adC
set_option linter.unusedVariables false
theorem frR : FrR Tb where
  keep := fun _ _ _ _ _ ⟨b, h⟩ hs hk => ⟨b, h.keep hk hs⟩
  lt := fun _ _ _ _ ⟨_, h⟩ k hk => h.lt k hk
  new := fun w => new_any w
  add := fun w S t st y h hi hy => cadd_any w S t st y h hi hy
  drop := fun w S t st y h hi hy => cdrop_any w S t st y h hi hy
  find := fun w S t st s a h hi ha ya => cfind_any w S t st s a h hi ha ya
  all := fun w S t st h hi => all_any w S t st h hi
theorem aliveR : Alive := alive_any frR
end Go.Proofs.Ytjdenhkicikfkaa.rtC

/-
  How the arguments of a statement are opened: an array of numbers, a slice of numbers.
-/
namespace Go.Proofs.Ytjdenhkicikfkaa.openC
open Go.ChangeShapes Go.WideShapes Go.ChangeAt Go.RowKit
set_option linter.unusedVariables false
variable {H : Type} {enc : TypeId × Value → H} {P : Program} {w : World} {base : Nat} {spare : Nat → Bool} {held : Bool}

theorem list2 {α : Type} {l : List α} (h : l.length = 2) : ∃ a b, l = [a, b] := by
  match l, h with
  | [a, b], _ => exact ⟨a, b, rfl⟩
theorem list3 {α : Type} {l : List α} (h : l.length = 3) : ∃ a b c, l = [a, b, c] := by
  match l, h with
  | [a, b, c], _ => exact ⟨a, b, c, rfl⟩
theorem list4 {α : Type} {l : List α} (h : l.length = 4) : ∃ a b c d, l = [a, b, c, d] := by
  match l, h with
  | [a, b, c, d], _ => exact ⟨a, b, c, d, rfl⟩
theorem open_array_ints {r : Reach} {b0 : Nat} {t e : TypeId} {n : Nat} {k : IntKind} {v : Value} {d : DataW H} {ps : List MemPlace} (ht : P.underlying t = some (.array n e)) (he : P.underlying e = some (.int k))
    (hce : P.cellsOf e = 1) (hct : P.cellsOf t = n) (hval : Value.okWide P w r b0 t v) (hd : DataW.Trod enc P w base spare held t v d ps) :
    ∃ zs : List Int, zs.length = n ∧ v = .agg (zs.map (Value.int k)).toArray ∧ ∀ x ∈ zs, (Lit.int k x).wf = true := by
  obtain ⟨cs, rfl, hsz, _⟩ : ∃ cs, v = .agg cs ∧ cs.size = P.cellsOf t ∧ Row.okWide P w r b0 t cs := by
    simpa [Value.okWide, ht] using hval
  obtain ⟨l⟩ := cs
  rw [hct] at hsz
  obtain ⟨fuel, hf⟩ := hd
  obtain ⟨xs, m, rfl, _, hl, hxl, hx⟩ := DataW.trod_array ht hf
  rw [hce] at hx
  have hsz' : l.length = n := by simpa using hsz
  have key : ∀ i, (hi : i < n) → ∃ z, l[i]? = some (.int k z) ∧ (Lit.int k z).wf = true := by
    intro i hi
    have h1 := hx i hi
    have hxi : xs[i]? = some (xs[i]'(by omega)) := List.getElem?_eq_getElem _
    rw [hxi] at h1
    obtain ⟨z, h2, _, h3⟩ := DataW.trod_int he h1
    refine ⟨z, ?_, h3⟩
    have h4 : ((Value.agg { toList := l }).cells.toList.drop (i * 1)).take 1 = [Value.int k z] := h2
    have h5 : (Value.agg { toList := l }).cells.toList = l := by simp [Value.cells]
    rw [h5, Nat.mul_one] at h4
    have h6 := congrArg (fun q => q[0]?) h4
    simpa using h6
  refine ⟨l.map fun v => match v with | .int _ z => z | _ => 0, by simpa using hsz', ?_, ?_⟩
  · congr 1
    simp only [List.map_map]
    congr 1
    apply List.ext_getElem?
    intro i
    by_cases hi : i < n
    · obtain ⟨z, hz, _⟩ := key i hi
      rw [List.getElem?_map, hz]; rfl
    · rw [List.getElem?_eq_none (by omega), List.getElem?_eq_none (by simp; omega)]
  · intro x hx
    obtain ⟨v, hv, rfl⟩ := List.mem_map.1 hx
    obtain ⟨i, hi, rfl⟩ := List.getElem_of_mem hv
    obtain ⟨z, hz, hw⟩ := key i (by omega)
    rw [List.getElem?_eq_getElem hi] at hz
    obtain hz := Option.some.inj hz
    rw [hz]; exact hw
/-- a slice of numbers that came in: of no number, or a row of cells -/
theorem open_slice_ints {r : Reach} {b0 : Nat} {t e : TypeId} {k : IntKind} {v : Value} {d : DataW H} {ps : List MemPlace} (ht : P.underlying t = some (.slice e)) (he : P.underlying e = some (.int k))
    (hce : P.cellsOf e = 1) (hsp : ∀ b, spare b = true) (hval : Value.okWide P w r b0 t v) (hd : DataW.Trod enc P w base spare held t v d ps) :
    (∃ a cap, v = .slice a 0 cap) ∨
    ∃ (b off len cap : Nat) (zs : List Int), v = .slice (some ⟨b, off, none⟩) len cap ∧ len ≤ cap ∧ cap ≤ maxLen ∧ zs.length = len ∧ (∀ i, i < len → w.cell? ⟨b, off + i, none⟩ = some (.int k (zs.getD i 0))) ∧ ∀ n ∈ zs, (Lit.int k n).wf = true := by
  obtain ⟨a, len, cap, rfl⟩ := okWide_slice ht hval
  obtain ⟨fuel, hf⟩ := hd
  rcases open_ints ht he hce hf with ⟨hcs, _⟩ | ⟨x, l, c, zs, hcs, _, hl, hm, hz, _, hcell, hwz⟩
  · simp [Value.cells] at hcs
    obtain ⟨rfl, rfl, rfl⟩ := hcs
    exact .inl ⟨_, _, rfl⟩
  · simp [Value.cells] at hcs
    obtain ⟨rfl, rfl, rfl⟩ := hcs
    by_cases h0 : len = 0
    · subst h0; exact .inl ⟨_, _, rfl⟩
    · rw [hsp, if_pos rfl] at hz
      obtain ⟨b, off, spot⟩ := x
      have hc := hcell 0 (by omega)
      have hspot : spot = none := by simpa [Addr.add] using World.cell?_spot hc
      subst hspot
      refine .inr ⟨b, off, len, cap, zs.take len, rfl, hl, hm, by simp; omega, ?_, fun n hn => hwz n (List.mem_of_mem_take hn)⟩
      intro i hi
      have h1 := hcell i (by omega)
      have h2 : (zs.take len).getD i 0 = zs.getD i 0 := by simp [List.getD_eq_getElem?_getD, hi]
      rw [h2]
      have e : (Addr.add ⟨b, off, none⟩ i) = (⟨b, off + i, none⟩ : Addr) := by
        unfold Addr.add; split
        · rename_i hi0; subst hi0; rfl
        · rfl
      rw [e] at h1; exact h1
end Go.Proofs.Ytjdenhkicikfkaa.openC
