/-
  The program's Get, Less and Len; what the laws ask of the program's functions.
-/
import Derived.Test.YtljcekmiockdjaaPmU
namespace Go.Proofs.Ytljcekmiockdjaa.pmC
open Go.ChangeShapes Go.WideShapes Go.ChangeAt Go.RowKit
open Go.Proofs.Ytljcekmiockdjaa.memC Go.Proofs.Ytljcekmiockdjaa.genC Go.Proofs.Ytljcekmiockdjaa.butC Go.Proofs.Ytljcekmiockdjaa.freeC Go.Proofs.Ytljcekmiockdjaa.adC
set_option linter.unusedVariables false
set_option linter.constructorNameAsVariable false
theorem built_runL {P : Program} {fr : Act} {o : Oper} {w : World} {T : TypeId} {fs : Array (Nat × Operand)} {L : List (Nat × Value)} {C : Array Value} (ho : o.op = .build T fs) (hL : fs.toList.map (fun p => (p.1, fr.eval p.2)) = L) (hb : P.built T L = some C) :
    (execOp fr.eval o).run P w = .ok (.value (.agg C)) w := by
  unfold execOp
  have e1 : (fs.map fun p => (p.1, fr.eval p.2)) = L.toArray := by rw [← hL]; apply Array.ext'; simp
  have h : (Instr.build T L.toArray).run P w = .ok (.agg C) w := run_build w T L.toArray C (by simpa using hb)
  simp [ho, e1, h, Result.andThen_ok]
/-- what 'tell' leaves: the cache, now at n2 -/
def TellR (w : World) (B t b : Nat) (n2 : Int) (q2 : Bool) (c : Nat) (e : Ending) (w' : World) : Prop := (∃ v, e = .returned v) ∧ CC w' B t b n2 q2 c ∧ Below B w w' ∧ ∀ g, g < w.heap.size → g ≠ t → g ≠ b → w'.heap[g]? = w.heap[g]?
theorem tell_same (w : World) (B t b : Nat) (n now : Int) (q : Bool) (c : Nat) (h : CC w B t b n q c) (hB : B ≤ w.heap.size) (hle : now ≤ n) : Calls Try.prog 15 #[.pointer (some ⟨t, 0, none⟩), .int .i64 now] w (TellR w B t b n q c) :=
  (tell_low w B t b n now q c h hle).mono fun e w' ⟨h1, h2⟩ => ⟨h1, h.below h2, h2.mono hB, fun g hg _ _ => h2.block g hg⟩
theorem tell_on (w : World) (B t b : Nat) (n now : Int) (q : Bool) (h : CC w B t b n true 1) (hB : B ≤ w.heap.size) (hlt : n < now) (hmx : now ≤ 1099511627776) (hq : decide (600000 ≤ now) = q) : Calls Try.prog 15 #[.pointer (some ⟨t, 0, none⟩), .int .i64 now] w (TellR w B t b now (!q) 1) :=
  (tell_high w B t b n now q h hB hlt hmx hq).mono fun e w' ⟨h1, h2, h3, h4⟩ => ⟨h1, h2, h3, h4⟩
set_option maxRecDepth 100000 in
set_option maxHeartbeats 4000000 in
theorem get_of (w : World) (B t b : Nat) (n now n2 : Int) (q q2 : Bool) (c c2 : Nat) (h : CC w B t b n q c) (hB : B ≤ w.heap.size)
    (TL : ∀ w', Below w.heap.size w w' → CC w' B t b n q c → Calls Try.prog 15 #[.pointer (some ⟨t, 0, none⟩), .int .i64 now] w' (TellR w' B t b n2 q2 c2)) :
    Calls Try.prog 10 #[.pointer (some ⟨t, 0, none⟩), .int .i64 now, .agg zAdr] w fun e w' => e = .returned (.int .i64 (if q2 then 576 else 1500)) ∧ CC w' B t b n2 q2 c2 ∧ Below B w w' := by
  have MT := Lib.hid (fun w2 (h2 : CC w2 B t b n2 q2 c2) => mtu_any w2 B t b n2 q2 c2 h2)
  obtain ⟨CK, hCK⟩ : ∃ C, C = zAdr := ⟨_, rfl⟩
  rw [← hCK] at MT
  rw [← hCK]
  have IK := Lib.hid (show (Try.prog.info? 24).map (·.size) = some CK.size by rw [hCK]; kernel_rfl)
  obtain ⟨W, hW⟩ : ∃ W, W = w.alloc (.cells CK 24) := ⟨_, rfl⟩
  obtain ⟨gk, hgk⟩ : ∃ g, g = w.heap.size := ⟨_, rfl⟩
  have HB := Lib.hid (show Below w.heap.size w W by rw [hW]; exact alloc_below _ _)
  have RK := Lib.hid (show W.heap[gk]? = some (.cells CK 24 (0, 0)) by rw [hW, hgk]; exact heap_alloc_new _ _)
  have HT := Lib.hid (h.below HB.out)
  have MD := Lib.hid (made_any W B t b n q c HT.out)
  have TT := Lib.hid (TL W HB.out HT.out)
  have HBB := Lib.hid (Nat.le_trans hB HB.out.size)
  have NG := Lib.hid (show gk ≠ t ∧ gk ≠ b by have := h.lt; have := h.ltb; omega)
  have HB0 := Lib.hid (HB.out.mono hB)
  clear h TL hCK hB
  generalize (if q2 then (576 : Int) else 1500) = V at *
  go_enter Try.func10, Try.ntmps10
  go_upto_region 1 with fail
  rw [← hW, ← hgk]
  clear hW hgk
  go_upto_region 4 with (first
    | (go_at_call 14; refine MD.out.mono ?_; rintro e w2 ⟨rfl, hw⟩; obtain rfl := hw.symm)
    | (go_at_call 15; refine TT.out.mono ?_; rintro e w3 ⟨⟨v, rfl⟩, h2, hb, hk⟩; have H2 := Lib.hid h2; have HB3 := Lib.hid hb; have HK3 := Lib.hid hk; clear h2 hb hk))
  have R3 := Lib.hid ((HK3.out gk (lt_of_row RK.out) NG.out.1 NG.out.2).trans RK.out)
  go_wp2_with (first
    | (refine wpList_load_row rfl 24 (.tmp 5) rfl gk rfl _ _ _ _ R3.out Try.underlying24 rfl IK.out ?_)
    | (go_at_call 16; refine (MT.out _ H2.out).mono ?_; rintro e w4 ⟨rfl, hb⟩; have HB4 := Lib.hid hb; clear hb))
  go_ret
  exact ⟨rfl, H2.out.below HB4.out, (HB0.out.trans HB3.out).trans (HB4.out.mono (Nat.le_trans HBB.out HB3.out.size))⟩
set_option maxRecDepth 100000 in
set_option maxHeartbeats 4000000 in
theorem less_any (w : World) (B t b : Nat) (h : CC w B t b 0 false 0) (hB : B ≤ w.heap.size) :
    Calls Try.prog 11 #[.pointer (some ⟨t, 0, none⟩), .int .i64 0, .agg zAdr, .int .i64 100] w fun e w' => e = .returned (.bool true) ∧ CC w' B t b 0 true 1 ∧ Below B w w' := by
  have MT := Lib.hid (fun w2 (h2 : CC w2 B t b 0 false 0) => (show Calls Try.prog 16 #[.pointer (some ⟨t, 0, none⟩), .agg zAdr] w2 (Ret w2 (.int .i64 1500)) from mtu_any w2 B t b 0 false 0 h2))
  have RM := Lib.hid (fun w2 (h2 : CC w2 B t b 0 false 0) => room_any w2 B t b 0 false 0 h2)
  have FL := Lib.hid (fun w2 => (show Calls Try.prog 5 #[.agg zAdr] w2 (Ret w2 (.int .i64 576)) from floor_any false (zs 16) w2))
  obtain ⟨CK, hCK⟩ : ∃ C, C = zAdr := ⟨_, rfl⟩
  rw [← hCK] at MT RM FL
  rw [← hCK]
  have IK := Lib.hid (show (Try.prog.info? 24).map (·.size) = some CK.size by rw [hCK]; kernel_rfl)
  have HCK := Lib.hid hCK
  obtain ⟨W, hW⟩ : ∃ W, W = w.alloc (.cells CK 24) := ⟨_, rfl⟩
  obtain ⟨gk, hgk⟩ : ∃ g, g = w.heap.size := ⟨_, rfl⟩
  have HB := Lib.hid (show Below w.heap.size w W by rw [hW]; exact alloc_below _ _)
  have RK := Lib.hid (show W.heap[gk]? = some (.cells CK 24 (0, 0)) by rw [hW, hgk]; exact heap_alloc_new _ _)
  have HT := Lib.hid (h.below HB.out)
  have MD := Lib.hid (made_any W B t b 0 false 0 HT.out)
  have TT := Lib.hid (tell_low W B t b 0 0 false 0 HT.out (by decide))
  have HBB := Lib.hid hB
  have CKB := Lib.hid (show Try.prog.built 48 [(0, .int .i64 576), (1, .int .i64 600000)] = some (fV 576 600000) by kernel_rfl)
  clear h hCK hB
  go_enter Try.func11, Try.ntmps11
  go_upto_region 1 with fail
  rw [← hW, ← hgk]
  clear hW hgk
  go_upto_region 4 with (first
    | (go_at_call 14; refine MD.out.mono ?_; rintro e w2 ⟨rfl, hw⟩; obtain rfl := hw.symm)
    | (go_at_call 15; refine TT.out.mono ?_; rintro e w3 ⟨⟨v, rfl⟩, hb⟩; have HB3 := Lib.hid hb; clear hb))
  have R3 := Lib.hid ((HB3.out.block gk (lt_of_row RK.out)).trans RK.out)
  have H3 := Lib.hid (HT.out.below HB3.out)
  go_upto_region 5 with (first
    | (refine wpList_load_row rfl 24 (.tmp 6) rfl gk rfl _ _ _ _ R3.out Try.underlying24 rfl IK.out ?_)
    | (go_at_call 5; refine (FL.out _).mono ?_; rintro e w4 ⟨rfl, hb⟩; have HB4 := Lib.hid hb; clear hb))
  have R4 := Lib.hid ((HB4.out.block gk (lt_of_row R3.out)).trans R3.out)
  have H4 := Lib.hid (H3.out.below HB4.out)
  go_upto_region 7 with (first
    | (refine wpList_load_row rfl 24 (.tmp 6) rfl gk rfl _ _ _ _ R4.out Try.underlying24 rfl IK.out ?_)
    | (go_at_call 16; refine (MT.out _ H4.out).mono ?_; rintro e w5 ⟨rfl, hb⟩; have HB5 := Lib.hid hb; clear hb))
  have R5 := Lib.hid ((HB5.out.block gk (lt_of_row R4.out)).trans R4.out)
  have H5 := Lib.hid (H4.out.below HB5.out)
  go_upto_region 8 with (first
    | (refine wpList_load_row rfl 24 (.tmp 6) rfl gk rfl _ _ _ _ R5.out Try.underlying24 rfl IK.out ?_)
    | (go_at_call 17; refine (RM.out _ H5.out).mono ?_; rintro e w6 ⟨⟨v6, rfl⟩, hb⟩; have HB6 := Lib.hid hb; clear hb))
  have R6 := Lib.hid ((HB6.out.block gk (lt_of_row R5.out)).trans R5.out)
  have H6 := Lib.hid (H5.out.below HB6.out)
  have RKd := Lib.hid (show ∀ w', (∃ j, w' = w6.drewN j) → w'.heap[gk]? = some (.cells CK 24 (0, 0)) by rintro w' ⟨j, rfl⟩; exact R6.out)
  have c2 := H6.out.now
  have c3 := H6.out.known
  refine Go.Proofs.Ytljcekmiockdjaa.lastC.wp_region_lastC (fun w' => ∃ j, w' = w6.drewN j) 12 (by kernel_rfl) (by kernel_rfl) (by kernel_rfl) (by kernel_rfl) ⟨1, rfl⟩ ?_
  simp only [List.take_succ_cons, List.take_zero, List.drop_succ_cons, List.drop_zero]
  repeat (first
    | (refine wpQuiet_row rfl 24 (.tmp 6) rfl gk rfl _ _ _ _ RKd.out Try.underlying24 rfl IK.out ?_)
    | (refine wpQuiet_run rfl (.agg (fV 576 600000)) (fun w' _ => built_runL (T := 48) rfl rfl CKB.out) ?_)
    | go_big_quiet_step (fail)
    | quiet_step (fail))
  refine wpQuiet_nil ?_
  intro w7 hw7
  obtain ⟨n7, hw8⟩ := hw7
  subst hw8
  simp only [Act.put, List.setIfInBounds_toArray, List.set_cons_succ, List.set_cons_zero]
  refine wpList_putF rfl (.tmp 30) (.tmp 31) (.tmp 38) rfl rfl rfl rfl HCK.out (show (w6.drewN n7).heap[b]? = some (.map (ents false) 0) from H6.out.map) ?_
  intro w8 hM8 hB8
  have HM8 := Lib.hid hM8
  have HB8 := Lib.hid (show But b w6 w8 from ⟨hB8.os, hB8.tape, hB8.output, hB8.size, hB8.block⟩)
  clear hM8 hB8 c2 c3
  simp only [Act.put]
  go_wp2_with fail
  go_ret
  have b1 := HB.out.trans (HB3.out.mono HB.out.size)
  have b2 := b1.trans (HB4.out.mono b1.size)
  have b3 := b2.trans (HB5.out.mono b2.size)
  have HBT := b3.trans (HB6.out.mono b3.size)
  exact ⟨rfl, ⟨(HB8.out.block t H6.out.lt H6.out.ne).trans H6.out.row, HM8.out, H6.out.bt, H6.out.bb⟩, (HBT.mono HBB.out).trans (HB8.out.to_below H6.out.bb (Nat.le_trans HBB.out HBT.size))⟩
/-! ### caches that nobody made -/
set_option maxRecDepth 100000 in
theorem nm_get (w : World) (pv : Value) (now : Int) (s : Bool) (a : List Int) (h : NM w pv) : Calls Try.prog 10 #[pv, .int .i64 now, .agg (adrV s a)] w (Ret w (.int .i64 0)) := by
  obtain ⟨W, hW⟩ : ∃ W, W = w.alloc (.cells (adrV s a) 24) := ⟨_, rfl⟩
  have HB := Lib.hid (show Below w.heap.size w W by rw [hW]; exact alloc_below _ _)
  have MD := Lib.hid (not_made W pv (h.below HB.out))
  clear h
  generalize adrV s a = C at *
  go_enter Try.func10, Try.ntmps10
  go_upto_region 1 with fail
  rw [← hW]
  clear hW
  go_wp2_with (go_at_call 14; refine MD.out.mono ?_; rintro e w2 ⟨rfl, hw⟩; obtain rfl := hw.symm)
  go_ret
  exact ⟨rfl, HB.out⟩
set_option maxRecDepth 100000 in
theorem nm_less (w : World) (pv : Value) (now : Int) (s : Bool) (a : List Int) (mtu : Int) (h : NM w pv) : Calls Try.prog 11 #[pv, .int .i64 now, .agg (adrV s a), .int .i64 mtu] w (Ret w (.bool false)) := by
  obtain ⟨W, hW⟩ : ∃ W, W = w.alloc (.cells (adrV s a) 24) := ⟨_, rfl⟩
  have HB := Lib.hid (show Below w.heap.size w W by rw [hW]; exact alloc_below _ _)
  have MD := Lib.hid (not_made W pv (h.below HB.out))
  clear h
  generalize adrV s a = C at *
  go_enter Try.func11, Try.ntmps11
  go_upto_region 1 with fail
  rw [← hW]
  clear hW
  go_wp2_with (go_at_call 14; refine MD.out.mono ?_; rintro e w2 ⟨rfl, hw⟩; obtain rfl := hw.symm)
  go_ret
  exact ⟨rfl, HB.out⟩
set_option maxRecDepth 100000 in
theorem nm_len (w : World) (pv : Value) (now : Int) (h : NM w pv) : Calls Try.prog 12 #[pv, .int .i64 now] w (Ret w (.int .i64 0)) := by
  have MD := Lib.hid (not_made w pv h)
  clear h
  go_enter Try.func12, Try.ntmps12
  go_wp2_with (go_at_call 14; refine MD.out.mono ?_; rintro e w2 ⟨rfl, hw⟩; obtain rfl := hw.symm)
  go_ret
  exact ⟨rfl, Below.refl _ _⟩
theorem nobP : Nob NM where
  below := fun w w' pv h hb => h.below hb
  nil := fun w => .inl rfl
  zero := fun w t h => .inr ⟨t, rfl, h⟩
  get := fun w pv now s a h _ _ => nm_get w pv now s a h
  less := fun w pv now s a mtu h _ _ => nm_less w pv now s a mtu h
  len := fun w pv now h => nm_len w pv now h
theorem frP : FrP K0 K1 where
  floor := fun s b w _ => floor_any s b w
  plateau := fun n w _ => plateau_any n w
  new := fun w => new_any w
  less := fun B w t ⟨b, h⟩ hB => (less_any w B t b h hB).mono fun e w' ⟨h1, h2, h3⟩ => ⟨h1, ⟨b, 0, ⟨by decide, by decide⟩, h2⟩, h3⟩
  get := fun B w t ⟨b, n, hn, h⟩ hB => by
    by_cases h1 : (1 : Int) ≤ n
    · exact (get_of w B t b n 1 n true true 1 1 h hB fun w' hb h' => tell_same w' B t b n 1 true 1 h' (Nat.le_trans hB hb.size) h1).mono fun e w' ⟨e1, e2, e3⟩ => ⟨e1, ⟨b, n, hn, e2⟩, e3⟩
    · exact (get_of w B t b n 1 1 true true 1 1 h hB fun w' hb h' => tell_on w' B t b n 1 false h' (Nat.le_trans hB hb.size) (by omega) (by decide) rfl).mono fun e w' ⟨e1, e2, e3⟩ => ⟨e1, ⟨b, 1, ⟨by decide, by decide⟩, e2⟩, e3⟩
  late := fun B w t ⟨b, n, hn, h⟩ hB =>
    (get_of w B t b n 600000 600000 true false 1 1 h hB fun w' hb h' => tell_on w' B t b n 600000 true h' (Nat.le_trans hB hb.size) (by omega) (by decide) rfl).mono fun e w' ⟨e1, e2, e3⟩ => ⟨e1, e3⟩
theorem aliveP : Alive := alive_any frP
end Go.Proofs.Ytljcekmiockdjaa.pmC
