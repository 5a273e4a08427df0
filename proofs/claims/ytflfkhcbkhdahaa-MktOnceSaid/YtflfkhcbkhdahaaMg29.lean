/-
  4 texts of a proof, joined.
-/
import Derived.Test.YtflfkhcbkhdahaaMg27
import Derived.Test.YtflfkhcbkhdahaaMg28
import Derived.Test.YtflfkhcbkhdahaaMg22
import Derived.Test.YtflfkhcbkhdahaaMg19
import Derived.OpenShut
import Derived.ChangeArms
import Derived.Deep.Slices
import Derived.Test.YtflfkhcbkhdahaaRows
import Derived.WalkKit
import Derived.ProofKit
import Derived.ShutString
import Derived.ChangeOld
import Derived.Below

/-
  What the program's rings do, all of it.
-/
namespace Go.Proofs.Ytflfkhcbkhdahaa.mkC
open Go.ChangeShapes Go.WideShapes Go.ChangeAt Go.RowKit
open Go.Proofs.Ytflfkhcbkhdahaa.memC Go.Proofs.Ytflfkhcbkhdahaa.genC Go.Proofs.Ytflfkhcbkhdahaa.butC Go.Proofs.Ytflfkhcbkhdahaa.freeC Go.Proofs.Ytflfkhcbkhdahaa.adC Go.Proofs.Ytflfkhcbkhdahaa.rtC
set_option linter.unusedVariables false
theorem frK : FrK Tb where
  keep := fun w w' S t rg ⟨A, n, c, es, h⟩ hs hk => ⟨A, n, c, es, h.keep hs hk⟩
  lt := fun w S t rg ⟨A, n, c, es, h⟩ k hk => h.lt k hk
  new := new_any
  add := add_any
  drop := drop_any
  get := get_any
  sends := sends_any
  gets := gets_any
  all := all_any
  for_ := for_any
theorem aliveK : Alive := alive_any frK
set_option maxRecDepth 100000 in
set_option maxHeartbeats 4000000 in
theorem add_no (w : World) (pv : Value) (q : Ke) (h : NM w pv) (hq : KeAt w w.heap.size q) (hn : q.n ≤ 200) : Calls Try.prog 12 #[pv, .agg q.V] w (Ret w (.tuple #[.int .i64 0, .int .i64 2])) := by
  obtain ⟨W, hW⟩ : ∃ W, W = w.alloc (.cells q.V 49) := ⟨_, rfl⟩
  have HB := Lib.hid (show Below w.heap.size w W by rw [hW]; exact alloc_below _ _)
  have MD := Lib.hid (not_made W pv (h.below HB.out))
  clear h hq hn
  generalize q.V = CB at *
  go_enter Try.func12, Try.ntmps12
  go_upto_region 1 with fail
  rw [← hW]
  clear hW
  go_wp2_with (go_at_call 26; refine MD.out.mono ?_; rintro e w2 ⟨rfl, hw⟩; obtain rfl := hw.symm)
  go_ret2
  exact ⟨rfl, HB.out⟩
set_option maxRecDepth 100000 in
set_option maxHeartbeats 4000000 in
theorem drop_no (w : World) (pv : Value) (m : Int) (h : NM w pv)  : Calls Try.prog 10 #[pv, .int .i64 m] w (Ret w (.int .i64 2)) := by
  obtain ⟨W, hW⟩ : ∃ W, W = w.alloc (.cells #[.int .i64 m] 3) := ⟨_, rfl⟩
  have HB := Lib.hid (show Below w.heap.size w W by rw [hW]; exact alloc_below _ _)
  have MD := Lib.hid (not_made W pv (h.below HB.out))
  clear h
  go_enter Try.func10, Try.ntmps10
  go_upto_region 1 with fail
  rw [← hW]
  clear hW
  go_wp2_with (go_at_call 26; refine MD.out.mono ?_; rintro e w2 ⟨rfl, hw⟩; obtain rfl := hw.symm)
  go_ret
  exact ⟨rfl, HB.out⟩
set_option maxRecDepth 100000 in
set_option maxHeartbeats 4000000 in
theorem one_no (w : World) (pv : Value) (c0 : Int) (cl : Value) (h : NM w pv) : Calls Try.prog 37 #[pv, .int .i64 c0, cl] w (Ret w (.tuple #[.agg (ktV zKt none 0 0), .int .i64 2])) := by
  have hzv := zeroPk
  obtain ⟨W, hW⟩ : ∃ W, W = w.alloc (.cells (ktV zKt none 0 0) 49) := ⟨_, rfl⟩
  have HB := Lib.hid (show Below w.heap.size w W by rw [hW]; exact alloc_below _ _)
  have R6 := Lib.hid (show W.heap[w.heap.size]? = some (.cells (ktV zKt none 0 0) 49 (0, 0)) by rw [hW]; exact heap_alloc_new _ _)
  have MD := Lib.hid (not_made W pv (h.below HB.out))
  have IZ := Lib.hid (pkV_info (A := none) (m := 0) (c := 0) zKt_ok)
  have OZ := Lib.hid (kt_ones (k := zKt) (A := none) (m := 0) (c := 0))
  have BZ := Lib.hid built_zpk
  generalize ktV zKt none 0 0 = ZV at *
  clear h
  go_enter Try.func37, Try.ntmps37
  go_upto_region 1 with fail
  rw [← hW]
  clear hW hzv
  go_wp2_with (first
    | (go_at_call 26; refine MD.out.mono ?_; rintro e w2 ⟨rfl, hw⟩; obtain rfl := hw.symm)
    | (with_reducible refine at_build 49 ?_; refine wpList_runG (by kernel_rfl) _ (adC.built_run (T := 49) rfl BZ.out) ?_)
    | (refine wpList_store_row rfl 49 (.tmp 6) (.tmp 12) rfl w.heap.size ZV rfl rfl _ _ R6.out IZ.out rfl OZ.out ?_))
  refine bodyPost_ret (v := .tuple #[.agg ZV, .int .i64 2]) (adC.results_cell_tmp Try.results37 _ _ w.heap.size _ _ _ _ _ (by rfl) (setRow_heap _ _ _ _ _ _ R6.out) Try.underlying49 rfl IZ.out (by rfl)) rfl ?_
  exact ⟨rfl, setR_belowM HB.out (Nat.le_refl _) _⟩
set_option maxRecDepth 100000 in
set_option maxHeartbeats 4000000 in
theorem get_no (w : World) (pv : Value) (m : Int) (h : NM w pv)  : Calls Try.prog 19 #[pv, .int .i64 m] w (NoneR w) := by
  have hzv := zeroPk
  obtain ⟨W1, hW1⟩ : ∃ W, W = w.alloc (.cells #[.int .i64 m] 3) := ⟨_, rfl⟩
  obtain ⟨W, hW⟩ : ∃ W, W = W1.alloc (.cells (ktV zKt none 0 0) 49) := ⟨_, rfl⟩
  have A1 : Below w.heap.size w W1 := by rw [hW1]; exact alloc_below _ _
  have z1 : W1.heap.size = w.heap.size + 1 := by rw [hW1, alloc_size]
  have A2 : Below W1.heap.size W1 W := by rw [hW]; exact alloc_below _ _
  have z2 : W.heap.size = w.heap.size + 2 := by rw [hW, alloc_size, z1]
  obtain ⟨b6, hb6⟩ : ∃ b, b = w.heap.size + 1 := ⟨_, rfl⟩
  have R6 := Lib.hid (show W.heap[b6]? = some (.cells (ktV zKt none 0 0) 49 (0, 0)) by rw [hW, hb6, ← z1]; exact heap_alloc_new _ _)
  have HB := Lib.hid (show Below w.heap.size w W from (A1).trans (A2.mono (by omega)))
  have H6 := Lib.hid (show w.heap.size ≤ b6 by omega)
  have ON := Lib.hid (fun c0 cl => one_no W pv c0 cl (h.below HB.out))
  have IZ := Lib.hid (pkV_info (A := none) (m := 0) (c := 0) zKt_ok)
  have OZ := Lib.hid (kt_ones (k := zKt) (A := none) (m := 0) (c := 0))
  obtain ⟨ZV, hZV⟩ : ∃ Z, Z = ktV zKt none 0 0 := ⟨_, rfl⟩
  have HZV := Lib.hid hZV
  rw [← hZV] at hzv R6 IZ OZ hW ON
  clear h hZV A1 A2
  go_enter Try.func19, Try.ntmps19
  go_upto_region 1 with fail
  try rw [← hW1]
  try rw [← hW]
  try rw [z1]
  try rw [← hb6]
  clear hW hzv hb6 hW1 z1 z2
  go_wp2_with (first
    | (go_at_call 37; (with_reducible refine (ON.out _ _).mono ?_); rintro e w3 ⟨rfl, b3⟩
       have HB3 := Lib.hid b3
       have R3 := Lib.hid (show w3.heap[b6]? = some (.cells ZV 49 (0, 0)) from (b3.block _ (lt_of_row R6.out)).trans R6.out)
       clear b3)
    | (refine wpList_store_row rfl 49 (.tmp 4) (.tmp 9) rfl b6 ZV rfl rfl _ _ R3.out IZ.out rfl OZ.out ?_))
  refine bodyPost_ret (v := .tuple #[.agg ZV, .int .i64 2]) (adC.results_cell_tmp Try.results19 _ _ b6 _ _ _ _ _ (by rfl) (setRow_heap _ _ _ _ _ _ R3.out) Try.underlying49 rfl IZ.out (by rfl)) rfl ?_
  rw [HZV.out]
  exact ⟨zKe, zKe_at _ _, rfl, rfl, setR_belowM (HB.out.trans (HB3.out.mono HB.out.size)) H6.out _⟩
set_option maxRecDepth 100000 in
set_option maxHeartbeats 4000000 in
theorem sends_no (w : World) (pv : Value) (p : Pr) (i : Int) (h : NM w pv)  : Calls Try.prog 15 #[pv, .agg (prV p), .int .u8 i] w (NoneR w) := by
  have hzv := zeroPk
  obtain ⟨W1, hW1⟩ : ∃ W, W = w.alloc (.cells (prV p) 30) := ⟨_, rfl⟩
  obtain ⟨W2, hW2⟩ : ∃ W, W = W1.alloc (.cells #[.int .u8 i] 5) := ⟨_, rfl⟩
  obtain ⟨W, hW⟩ : ∃ W, W = W2.alloc (.cells (ktV zKt none 0 0) 49) := ⟨_, rfl⟩
  have A1 : Below w.heap.size w W1 := by rw [hW1]; exact alloc_below _ _
  have z1 : W1.heap.size = w.heap.size + 1 := by rw [hW1, alloc_size]
  have A2 : Below W1.heap.size W1 W2 := by rw [hW2]; exact alloc_below _ _
  have z2 : W2.heap.size = w.heap.size + 2 := by rw [hW2, alloc_size, z1]
  have A3 : Below W2.heap.size W2 W := by rw [hW]; exact alloc_below _ _
  have z3 : W.heap.size = w.heap.size + 3 := by rw [hW, alloc_size, z2]
  obtain ⟨b6, hb6⟩ : ∃ b, b = w.heap.size + 2 := ⟨_, rfl⟩
  have R6 := Lib.hid (show W.heap[b6]? = some (.cells (ktV zKt none 0 0) 49 (0, 0)) by rw [hW, hb6, ← z2]; exact heap_alloc_new _ _)
  have HB := Lib.hid (show Below w.heap.size w W from ((A1).trans (A2.mono (by omega))).trans (A3.mono (by omega)))
  have H6 := Lib.hid (show w.heap.size ≤ b6 by omega)
  have ON := Lib.hid (fun c0 cl => one_no W pv c0 cl (h.below HB.out))
  have IZ := Lib.hid (pkV_info (A := none) (m := 0) (c := 0) zKt_ok)
  have OZ := Lib.hid (kt_ones (k := zKt) (A := none) (m := 0) (c := 0))
  obtain ⟨ZV, hZV⟩ : ∃ Z, Z = ktV zKt none 0 0 := ⟨_, rfl⟩
  have HZV := Lib.hid hZV
  rw [← hZV] at hzv R6 IZ OZ hW ON
  generalize prV p = CP at *
  clear h hZV A1 A2 A3
  go_enter Try.func15, Try.ntmps15
  go_upto_region 1 with fail
  try rw [← hW1]
  try rw [← hW2]
  try rw [← hW]
  try rw [z2]
  try rw [z1]
  try rw [← hb6]
  clear hW hzv hb6 hW1 hW2 z1 z2 z3
  go_wp2_with (first
    | (go_at_call 37; (with_reducible refine (ON.out _ _).mono ?_); rintro e w3 ⟨rfl, b3⟩
       have HB3 := Lib.hid b3
       have R3 := Lib.hid (show w3.heap[b6]? = some (.cells ZV 49 (0, 0)) from (b3.block _ (lt_of_row R6.out)).trans R6.out)
       clear b3)
    | (refine wpList_store_row rfl 49 (.tmp 6) (.tmp 11) rfl b6 ZV rfl rfl _ _ R3.out IZ.out rfl OZ.out ?_))
  refine bodyPost_ret (v := .tuple #[.agg ZV, .int .i64 2]) (adC.results_cell_tmp Try.results15 _ _ b6 _ _ _ _ _ (by rfl) (setRow_heap _ _ _ _ _ _ R3.out) Try.underlying49 rfl IZ.out (by rfl)) rfl ?_
  rw [HZV.out]
  exact ⟨zKe, zKe_at _ _, rfl, rfl, setR_belowM (HB.out.trans (HB3.out.mono HB.out.size)) H6.out _⟩
set_option maxRecDepth 100000 in
set_option maxHeartbeats 4000000 in
theorem gets_no (w : World) (pv : Value) (p : Pr) (i : Int) (h : NM w pv)  : Calls Try.prog 17 #[pv, .agg (prV p), .int .u8 i] w (NoneR w) := by
  have hzv := zeroPk
  obtain ⟨W1, hW1⟩ : ∃ W, W = w.alloc (.cells (prV p) 30) := ⟨_, rfl⟩
  obtain ⟨W2, hW2⟩ : ∃ W, W = W1.alloc (.cells #[.int .u8 i] 5) := ⟨_, rfl⟩
  obtain ⟨W, hW⟩ : ∃ W, W = W2.alloc (.cells (ktV zKt none 0 0) 49) := ⟨_, rfl⟩
  have A1 : Below w.heap.size w W1 := by rw [hW1]; exact alloc_below _ _
  have z1 : W1.heap.size = w.heap.size + 1 := by rw [hW1, alloc_size]
  have A2 : Below W1.heap.size W1 W2 := by rw [hW2]; exact alloc_below _ _
  have z2 : W2.heap.size = w.heap.size + 2 := by rw [hW2, alloc_size, z1]
  have A3 : Below W2.heap.size W2 W := by rw [hW]; exact alloc_below _ _
  have z3 : W.heap.size = w.heap.size + 3 := by rw [hW, alloc_size, z2]
  obtain ⟨b6, hb6⟩ : ∃ b, b = w.heap.size + 2 := ⟨_, rfl⟩
  have R6 := Lib.hid (show W.heap[b6]? = some (.cells (ktV zKt none 0 0) 49 (0, 0)) by rw [hW, hb6, ← z2]; exact heap_alloc_new _ _)
  have HB := Lib.hid (show Below w.heap.size w W from ((A1).trans (A2.mono (by omega))).trans (A3.mono (by omega)))
  have H6 := Lib.hid (show w.heap.size ≤ b6 by omega)
  have ON := Lib.hid (fun c0 cl => one_no W pv c0 cl (h.below HB.out))
  have IZ := Lib.hid (pkV_info (A := none) (m := 0) (c := 0) zKt_ok)
  have OZ := Lib.hid (kt_ones (k := zKt) (A := none) (m := 0) (c := 0))
  obtain ⟨ZV, hZV⟩ : ∃ Z, Z = ktV zKt none 0 0 := ⟨_, rfl⟩
  have HZV := Lib.hid hZV
  rw [← hZV] at hzv R6 IZ OZ hW ON
  generalize prV p = CP at *
  clear h hZV A1 A2 A3
  go_enter Try.func17, Try.ntmps17
  go_upto_region 1 with fail
  try rw [← hW1]
  try rw [← hW2]
  try rw [← hW]
  try rw [z2]
  try rw [z1]
  try rw [← hb6]
  clear hW hzv hb6 hW1 hW2 z1 z2 z3
  go_wp2_with (first
    | (go_at_call 37; (with_reducible refine (ON.out _ _).mono ?_); rintro e w3 ⟨rfl, b3⟩
       have HB3 := Lib.hid b3
       have R3 := Lib.hid (show w3.heap[b6]? = some (.cells ZV 49 (0, 0)) from (b3.block _ (lt_of_row R6.out)).trans R6.out)
       clear b3)
    | (refine wpList_store_row rfl 49 (.tmp 6) (.tmp 11) rfl b6 ZV rfl rfl _ _ R3.out IZ.out rfl OZ.out ?_))
  refine bodyPost_ret (v := .tuple #[.agg ZV, .int .i64 2]) (adC.results_cell_tmp Try.results17 _ _ b6 _ _ _ _ _ (by rfl) (setRow_heap _ _ _ _ _ _ R3.out) Try.underlying49 rfl IZ.out (by rfl)) rfl ?_
  rw [HZV.out]
  exact ⟨zKe, zKe_at _ _, rfl, rfl, setR_belowM (HB.out.trans (HB3.out.mono HB.out.size)) H6.out _⟩
set_option maxRecDepth 100000 in
set_option maxHeartbeats 4000000 in
theorem those_no (w : World) (pv : Value) (cl : Value) (h : NM w pv) : Calls Try.prog 43 #[pv, cl] w (Ret w (.slice none 0 0)) := by
  have MD := Lib.hid (not_made w pv h)
  clear h
  go_enter Try.func43, Try.ntmps43
  go_wp2_with (go_at_call 26; refine MD.out.mono ?_; rintro e w2 ⟨rfl, hw⟩; obtain rfl := hw.symm)
  go_ret
  exact ⟨rfl, Below.refl _ _⟩
set_option maxRecDepth 100000 in
set_option maxHeartbeats 4000000 in
theorem all_no (w : World) (pv : Value) (h : NM w pv) : Calls Try.prog 23 #[pv] w fun e w' => ∃ A c, e = .returned (.slice A 0 c) ∧ Below w.heap.size w w' := by
  have TH := Lib.hid (fun cl => those_no w pv cl h)
  clear h
  go_enter Try.func23, Try.ntmps23
  go_wp2_with (go_at_call 43; (with_reducible refine (TH.out _).mono ?_); rintro e w2 ⟨rfl, hb⟩; have HB := Lib.hid hb; clear hb)
  go_ret
  exact ⟨none, 0, rfl, HB.out⟩
set_option maxRecDepth 100000 in
set_option maxHeartbeats 4000000 in
theorem for_no (w : World) (pv : Value) (p : Pr) (h : NM w pv) : Calls Try.prog 24 #[pv, .agg (prV p)] w fun e w' => ∃ A c, e = .returned (.slice A 0 c) ∧ Below w.heap.size w w' := by
  obtain ⟨W, hW⟩ : ∃ W, W = w.alloc (.cells (prV p) 30) := ⟨_, rfl⟩
  have HB := Lib.hid (show Below w.heap.size w W by rw [hW]; exact alloc_below _ _)
  have TH := Lib.hid (fun cl => those_no W pv cl (h.below HB.out))
  generalize prV p = CP at *
  clear h
  go_enter Try.func24, Try.ntmps24
  go_upto_region 1 with fail
  rw [← hW]
  clear hW
  go_wp2_with (go_at_call 43; (with_reducible refine (TH.out _).mono ?_); rintro e w2 ⟨rfl, hb⟩; have HB2 := Lib.hid hb; clear hb)
  go_ret
  exact ⟨none, 0, rfl, HB.out.trans (HB2.out.mono HB.out.size)⟩
theorem nobK : Nob NM where
  below := fun w w' pv h hb => h.below hb
  nil := fun w => .inl rfl
  zero := fun w t h => .inr ⟨t, rfl, h⟩
  add := add_no
  drop := drop_no
  get := get_no
  sends := fun w pv p i h _ _ => sends_no w pv p i h
  gets := fun w pv p i h _ _ => gets_no w pv p i h
  all := all_no
  for_ := fun w pv p h _ => for_no w pv p h
end Go.Proofs.Ytflfkhcbkhdahaa.mkC

/-
  A map of small numbers: looked up, put.
-/
namespace Go.Proofs.Ytflfkhcbkhdahaa.mkC
open Go.ChangeShapes Go.WideShapes Go.ChangeAt Go.RowKit
open Go.Proofs.Ytflfkhcbkhdahaa.memC Go.Proofs.Ytflfkhcbkhdahaa.genC Go.Proofs.Ytflfkhcbkhdahaa.butC Go.Proofs.Ytflfkhcbkhdahaa.freeC Go.Proofs.Ytflfkhcbkhdahaa.adC Go.Proofs.Ytflfkhcbkhdahaa.rtC
open Go.Maps (Keyed)
open Go.ChangeMaps Go.MapKept
set_option linter.unusedVariables false
/-- block b is a map of just these -/
def SetU (w : World) (b : Nat) (L : List Int) : Prop := ∃ es clock, w.heap[b]? = some (.map es clock) ∧ es.toList.map (fun e => (e.key, e.val)) = L.map fun x => (Value.int .u8 x, Value.bool true)
theorem u8_keyed : Keyed Try.prog 5 := Go.Maps.int_keyed Try.underlying5
theorem u8_key {x : Int} (h : Byte x) : ∃ l, keyOf Try.prog 5 (.int .u8 x) = some l := ⟨.int .u8 x, by simp [keyOf, mapKey, Try.underlying5]; exact WalkArith.wf_u8 ⟨h.1, by have := h.2; omega⟩⟩
section
variable {w w' : World} {b : Nat} {L : List Int} {m : Int}
theorem SetU.lt (h : SetU w b L) : b < w.heap.size := by
  obtain ⟨es, clock, hb, -⟩ := h
  exact (Array.getElem?_eq_some_iff.1 hb).1
theorem SetU.same (h : SetU w b L) (he : w'.heap[b]? = w.heap[b]?) : SetU w' b L := by
  obtain ⟨es, clock, hb, h2⟩ := h
  exact ⟨es, clock, he.trans hb, h2⟩
theorem SetU.made (w : World) : SetU (w.alloc (.map #[] 0)) w.heap.size [] := ⟨#[], 0, heap_alloc_new _ _, rfl⟩
set_option maxRecDepth 100000 in
theorem SetU.find {es : Array MapEntry} {clock : Nat} (h : w.heap[b]? = some (.map es clock)) (h2 : es.toList.map (fun e => (e.key, e.val)) = L.map fun x => (Value.int .u8 x, Value.bool true)) (hok : ∀ x ∈ L, Byte x) (hm : Byte m) :
    ((Instr.findKey 5 (.int .u8 m) es.toList).run Try.prog w = .ok none w ∧ ∀ x ∈ L, x ≠ m) ∨
    ∃ j, (Instr.findKey 5 (.int .u8 m) es.toList).run Try.prog w = .ok (some (j, .bool true)) w ∧ m ∈ L := by
  obtain ⟨l, hl⟩ := u8_key hm
  have hat : ∀ (j : Nat) (e : MapEntry), es.toList[j]? = some e → ∃ x, L[j]? = some x ∧ e.key = .int .u8 x ∧ e.val = .bool true := fun j e he => by
    have h3 := congrArg (fun l => l[j]?) h2
    simp only [List.getElem?_map, he, Option.map_some] at h3
    cases hx : L[j]? with
    | none => rw [hx] at h3; cases h3
    | some x =>
      rw [hx] at h3
      injection h3 with h3
      injection h3 with h4 h5
      exact ⟨x, rfl, h4, h5⟩
  have hks : ∀ e ∈ es.toList, ∃ l, keyOf Try.prog 5 e.key = some l := fun e he => by
    obtain ⟨j, hj⟩ := List.mem_iff_getElem?.1 he
    obtain ⟨x, hx, hk, -⟩ := hat j e hj
    rw [hk]
    exact u8_key (hok x (List.mem_of_getElem? hx))
  rcases u8_keyed.find w hl es.toList hks with ⟨h1, hn⟩ | ⟨j, e, h1, hj, hk⟩
  · refine .inl ⟨h1, fun x hx e => ?_⟩
    obtain ⟨j, hj⟩ := List.mem_iff_getElem?.1 hx
    have h3 := congrArg (fun l => l[j]?) h2
    simp only [List.getElem?_map, hj, Option.map_some] at h3
    cases he : es.toList[j]? with
    | none => rw [he] at h3; cases h3
    | some y =>
      rw [he] at h3
      injection h3 with h3
      injection h3 with h4 h5
      exact hn y (List.mem_of_getElem? he) (by rw [h4, e])
  · obtain ⟨x, hx, hk2, hv⟩ := hat j e hj
    refine .inr ⟨j, by rw [h1, hv], ?_⟩
    rw [hk] at hk2
    injection hk2 with _ hk2
    rw [hk2]
    exact List.mem_of_getElem? hx
set_option maxRecDepth 100000 in
theorem run_lookU (h : SetU w b L) (hok : ∀ x ∈ L, Byte x) (hm : Byte m) (hn : ∀ x ∈ L, x ≠ m) : (Instr.lookup 66 (.map (some b)) (.int .u8 m) false).run Try.prog w = .ok (.bool false) w := by
  obtain ⟨es, clock, hb, h2⟩ := h
  obtain ⟨l, hl⟩ := u8_key hm
  have hz : (zeroValue 4).run Try.prog w = .ok (.bool false) w := Try.zeroValue4 w
  rcases SetU.find (m := m) hb h2 hok hm with ⟨h1, -⟩ | ⟨j, -, hj⟩
  · simp [Instr.lookup, run_underlying Try.underlying66, MapKept.run_getObj_map hb, u8_keyed.check w _ hl, h1, hz, Result.andThen]
  · exact absurd rfl (hn _ hj)
set_option maxRecDepth 100000 in
theorem run_putU (h : SetU w b L) (hok : ∀ x ∈ L, Byte x) (hm : Byte m) (hn : ∀ x ∈ L, x ≠ m) : ∃ w', (Instr.mapUpdate 66 (.map (some b)) (.int .u8 m) (.bool true)).run Try.prog w = .ok () w' ∧ SetU w' b (L ++ [m]) ∧ But b w w' := by
  obtain ⟨es, clock, hb, h2⟩ := h
  obtain ⟨l, hl⟩ := u8_key hm
  rcases SetU.find (m := m) hb h2 hok hm with ⟨h1, -⟩ | ⟨j, -, hj⟩
  · refine ⟨setBlock w b (.map (es.push ⟨.int .u8 m, .bool true, clock⟩) (clock + 1)), ?_, ⟨es.push ⟨.int .u8 m, .bool true, clock⟩, clock + 1, heap_setBlock_same hb _, ?_⟩, ⟨rfl, rfl, rfl, by simp [setBlock], fun i _ hi => heap_setBlock_other hb _ hi⟩⟩
    · simp [Instr.mapUpdate, run_underlying Try.underlying66, MapKept.run_getObj_map hb, u8_keyed.check w false hl, h1, MapKept.run_setObj_map _ hb, Result.andThen, setBlock]
    · rw [Array.toList_push, List.map_append, h2, List.map_append]
      rfl
  · exact absurd rfl (hn _ hj)
theorem wpList_lookUG {ops : Array Oper} {rest : List Oper} {o : Oper} {a : Act} {w : World} {Q : Exit → Act → World → Prop} (hw : Region.wanted o (yielded ops a.tmps) = true) (x y : Operand) (ho : o.op = .lookup 66 x y false)
    (b : Nat) (m : Int) (hx : a.eval x = .map (some b)) (hy : a.eval y = .int .u8 m) (L : List Int) (hM : SetU w b L) (hok : ∀ x ∈ L, Byte x) (hm : Byte m) (hn : ∀ x ∈ L, x ≠ m)
    (h : wpList Try.prog ops Q rest (a.put o.dst (.bool false)) w) : wpList Try.prog ops Q (o :: rest) a w := by
  refine wpList_step fun K hK => ?_
  rw [if_pos hw]
  have hq := run_lookU hM hok hm hn
  unfold Oper.wp
  simp [execOp, ho, hx, hy, hq, Result.andThen]
  exact hK _ _ h
theorem putU_J {R : Value → World → Prop} {fr : Act} {o : Oper} {Q : Exit → Act → World → Prop} (s x : Tmp) (ho : o.op = .mapUpdate 66 (.tmp s) (.tmp x) (.const (.bool true))) (hs : fr.tmps[s]?.getD undef = .map (some b)) (hx : fr.tmps[x]?.getD undef = .int .u8 m) (hM : SetU w b L) (hok : ∀ x ∈ L, Byte x) (hm : Byte m) (hn : ∀ x ∈ L, x ≠ m)
    (h : ∀ w', SetU w' b (L ++ [m]) → But b w w' → R undef w') : o.wp Try.prog fr w (fun a' w' => ∃ v, a' = fr.put o.dst v ∧ R v w') Q := by
  obtain ⟨w', hrun, h1, h2⟩ := run_putU hM hok hm hn
  have e1 := ev_tmpM hs
  have e2 := ev_tmpM hx
  have e3 : fr.eval (.const (.bool true)) = .bool true := rfl
  refine free_skip (w' := w') ?_ ⟨undef, rfl, h w' h1 h2⟩
  simp [execOp, ho, e1, e2, e3, hrun, Result.andThen]
end
end Go.Proofs.Ytflfkhcbkhdahaa.mkC

/-
  Steps, key tuples and pairs as arguments.
-/
namespace Go.Proofs.Ytflfkhcbkhdahaa.mkC
open Go.ChangeShapes Go.WideShapes Go.ChangeAt Go.RowKit
open Go.Proofs.Ytflfkhcbkhdahaa.memC Go.Proofs.Ytflfkhcbkhdahaa.genC Go.Proofs.Ytflfkhcbkhdahaa.butC Go.Proofs.Ytflfkhcbkhdahaa.freeC Go.Proofs.Ytflfkhcbkhdahaa.adC Go.Proofs.Ytflfkhcbkhdahaa.rtC
set_option linter.unusedVariables false
set_option linter.constructorNameAsVariable false
section
variable {H : Type} {enc : TypeId × Value → H} {w : World} {base : Nat} {spare : Nat → Bool} {held : Bool} {fuel : Nat} {cs : List Value} {x : DataW H × List MemPlace}
theorem is_addr : Try.prog.underlying 25 = some (.struct (Try.prog.fieldsOf 25)) := by simp [Program.fieldsOf, Try.underlying25]
theorem is_end : Try.prog.underlying 28 = some (.struct (Try.prog.fieldsOf 28)) := by simp [Program.fieldsOf, Try.underlying28]
theorem is_pair : Try.prog.underlying 30 = some (.struct (Try.prog.fieldsOf 30)) := by simp [Program.fieldsOf, Try.underlying30]
theorem is_key : Try.prog.underlying 41 = some (.struct (Try.prog.fieldsOf 41)) := by simp [Program.fieldsOf, Try.underlying41]
theorem is_step : Try.prog.underlying 43 = some (.struct (Try.prog.fieldsOf 43)) := by simp [Program.fieldsOf, Try.underlying43]
theorem adr_fs : (Try.prog.fieldsOf 25).toList.map (fun f => (f.type, f.offset)) = [(4, 0), (23, 1)] := by kernel_rfl
theorem end_fs : (Try.prog.fieldsOf 28).toList.map (fun f => (f.type, f.offset)) = [(25, 0), (26, 17)] := by kernel_rfl
theorem pair_fs : (Try.prog.fieldsOf 30).toList.map (fun f => (f.type, f.offset)) = [(28, 0), (28, 18)] := by kernel_rfl
theorem key_fs : (Try.prog.fieldsOf 41).toList.map (fun f => (f.type, f.offset)) = [(3, 0), (25, 1), (3, 18), (26, 19), (26, 20), (5, 21), (5, 22), (3, 23), (39, 24), (4, 25)] := by kernel_rfl
theorem stp_fs : (Try.prog.fieldsOf 43).toList.map (fun f => (f.type, f.offset)) = [(4, 0), (3, 1), (41, 2)] := by kernel_rfl
theorem cellsE : Try.prog.cellsOf 25 = 17 ∧ Try.prog.cellsOf 23 = 16 ∧ Try.prog.cellsOf 5 = 1 ∧ Try.prog.cellsOf 26 = 1 ∧ Try.prog.cellsOf 3 = 1 ∧ Try.prog.cellsOf 4 = 1 ∧ Try.prog.cellsOf 39 = 1 ∧ Try.prog.cellsOf 28 = 18 ∧ Try.prog.cellsOf 30 = 36 ∧ Try.prog.cellsOf 41 = 26 ∧ Try.prog.cellsOf 43 = 28 := ⟨by kernel_rfl, by kernel_rfl, by kernel_rfl, by kernel_rfl, by kernel_rfl, by kernel_rfl, by kernel_rfl, by kernel_rfl, by kernel_rfl, by kernel_rfl, by kernel_rfl⟩
/-- a field's reading -/
theorem field_read {t : TypeId} {fs : Array Field} {L : List (TypeId × Nat)} (ht : Try.prog.underlying t = some (.struct fs)) (hL : fs.toList.map (fun f => (f.type, f.offset)) = L) (h : DataW.trod enc Try.prog w base spare held fuel t cs = some x) :
    cs.length = Try.prog.cellsOf t ∧ ∃ n : Nat, ∀ (i : Nat) (u : TypeId) (o : Nat), L[i]? = some (u, o) → ∃ y, DataW.trod enc Try.prog w base spare held n u ((cs.drop o).take (Try.prog.cellsOf u)) = some y := by
  obtain ⟨ys, n, -, -, hl, hyl, hg⟩ := DataW.trod_struct ht h
  refine ⟨hl, n, fun i u o hi => ?_⟩
  rw [← hL, List.getElem?_map] at hi
  cases hf : fs.toList[i]? with
  | none => rw [hf] at hi; cases hi
  | some f =>
    rw [hf] at hi
    injection hi with hi
    injection hi with h1 h2
    have hf2 : fs[i]? = some f := by rw [← Array.getElem?_toList]; exact hf
    have := hg i f hf2
    rw [h1, h2] at this
    have hlt : i < ys.length := by rw [hyl]; exact (Array.getElem?_eq_some_iff.1 hf2).1
    exact ⟨ys[i], this.trans (List.getElem?_eq_getElem hlt)⟩
theorem split_at (l : List Value) (a k : Nat) : l.drop a = (l.drop a).take k ++ l.drop (a + k) := by
  rw [← List.drop_drop]; exact (List.take_append_drop k _).symm
set_option maxRecDepth 100000 in
theorem adr_trod (h : DataW.trod enc Try.prog w base spare held fuel 25 cs = some x) : ∃ s b, cs = adrK s b ∧ b.length = 16 ∧ ∀ y ∈ b, Byte y := by
  obtain ⟨hl, n, hg⟩ := field_read is_addr adr_fs h
  have c1 := cellsE.1
  have c2 := cellsE.2.1
  have c3 := cellsE.2.2.1
  have cb := cellsE.2.2.2.2.2.1
  obtain ⟨y0, g0⟩ := hg 0 _ _ rfl
  obtain ⟨y1, g1⟩ := hg 1 _ _ rfl
  rw [cb] at g0
  rw [c2] at g1
  rw [c1] at hl
  obtain ⟨s, q0, -⟩ := DataW.trod_bool Try.underlying4 g0
  obtain ⟨xs, m, -, -, -, hxl, he⟩ := DataW.trod_array Try.underlying23 g1
  rw [c3] at he
  obtain ⟨l, hL⟩ : ∃ l, l = (cs.drop 1).take 16 := ⟨_, rfl⟩
  rw [← hL] at he
  have hll : l.length = 16 := by rw [hL, List.length_take, List.length_drop]; omega
  have key : ∀ i, i < 16 → ∃ z, l[i]? = some (.int .u8 z) ∧ Byte z := fun i hi => by
    have h1 := he i hi
    rw [List.getElem?_eq_getElem (show i < xs.length by omega)] at h1
    obtain ⟨z, h2, -, h3⟩ := DataW.trod_int Try.underlying5 h1
    have h4 : ((l.drop (i * 1)).take 1)[0]? = some (.int .u8 z) := by rw [h2]; rfl
    rw [List.getElem?_take_of_lt (by decide), List.getElem?_drop, Nat.mul_one, Nat.add_zero] at h4
    exact ⟨z, h4, bounds_u8 h3⟩
  refine ⟨s, l.map (fun v => match v with | .int _ z => z | _ => 0), ?_, by rw [List.length_map, hll], fun y hy => ?_⟩
  · have e : cs = (cs.drop 0).take 1 ++ ((cs.drop 1).take 16) := by
      have h1 := split_at cs 0 1
      have h2 := split_at cs 1 16
      rw [show cs.drop (1 + 16) = [] from List.drop_eq_nil_of_le (by omega), List.append_nil] at h2
      rw [List.drop_zero, Nat.zero_add, h2] at h1
      exact h1
    rw [q0, ← hL] at e
    rw [e]
    unfold adrK
    rw [List.singleton_append]
    congr 1
    refine List.ext_getElem? fun i => ?_
    rw [List.getElem?_map, List.getElem?_map]
    by_cases hi : i < 16
    · obtain ⟨z, hz, -⟩ := key i hi
      rw [hz]; rfl
    · rw [List.getElem?_eq_none (by omega)]; rfl
  · obtain ⟨v, hv, rfl⟩ := List.mem_map.1 hy
    obtain ⟨i, hi⟩ := List.mem_iff_getElem?.1 hv
    have hi16 : i < 16 := by have := (List.getElem?_eq_some_iff.1 hi).1; omega
    obtain ⟨z, hz, hb⟩ := key i hi16
    rw [hi] at hz
    injection hz with hz
    subst hz
    exact hb
set_option maxRecDepth 100000 in
theorem end_trod (h : DataW.trod enc Try.prog w base spare held fuel 28 cs = some x) : ∃ s b p, cs = adrK s b ++ [.int .u16 p] ∧ b.length = 16 ∧ (∀ y ∈ b, Byte y) ∧ 0 ≤ p ∧ p ≤ 65535 := by
  obtain ⟨hl, n, hg⟩ := field_read is_end end_fs h
  obtain ⟨c1, c2, c3, c4, c5, c6, c7, c8, c9, c10, c11⟩ := cellsE
  rw [c8] at hl
  obtain ⟨y0, g0⟩ := hg 0 _ _ rfl
  obtain ⟨y1, g1⟩ := hg 1 _ _ rfl
  rw [c1] at g0
  rw [c4] at g1
  obtain ⟨s, a, q0, la, ya⟩ := adr_trod g0
  obtain ⟨z, q1, -, w1⟩ := DataW.trod_int Try.underlying26 g1
  refine ⟨s, a, z, ?_, la, ya, bounds_u16 w1⟩
  have e : cs = (cs.drop 0).take 17 ++ ((cs.drop 17).take 1 ++ cs.drop 18) := (split_at cs 0 17).trans (congrArg (_ ++ ·) (split_at cs 17 1))
  rw [q0, q1, show cs.drop 18 = [] from List.drop_eq_nil_of_le (by omega)] at e
  rw [e]
  rfl
set_option maxRecDepth 100000 in
theorem pair_trod (h : DataW.trod enc Try.prog w base spare held fuel 30 cs = some x) : ∃ p : Pr, cs = prL p ∧ p.Ok := by
  obtain ⟨hl, n, hg⟩ := field_read is_pair pair_fs h
  obtain ⟨c1, c2, c3, c4, c5, c6, c7, c8, c9, c10, c11⟩ := cellsE
  rw [c9] at hl
  obtain ⟨y0, g0⟩ := hg 0 _ _ rfl
  obtain ⟨y1, g1⟩ := hg 1 _ _ rfl
  rw [c8] at g0 g1
  obtain ⟨s, a, p, q0, la, ya, hp⟩ := end_trod g0
  obtain ⟨t, b, p2, q1, lb, yb, hp2⟩ := end_trod g1
  refine ⟨⟨s, a, p, t, b, p2⟩, ?_, ⟨la, lb, ya, yb, hp, hp2⟩⟩
  have e : cs = (cs.drop 0).take 18 ++ ((cs.drop 18).take 18 ++ cs.drop 36) := (split_at cs 0 18).trans (congrArg (_ ++ ·) (split_at cs 18 18))
  rw [q0, q1, show cs.drop 36 = [] from List.drop_eq_nil_of_le (by omega), List.append_nil] at e
  rw [e]
  unfold prL
  rw [List.append_assoc]
  rfl
set_option maxRecDepth 100000 in
theorem key_trod (hsp : ∀ b, spare b = true) (h : DataW.trod enc Try.prog w base spare held fuel 41 cs = some x) : ∃ e : Ke, cs = e.L ∧ KeAt w w.heap.size e := by
  obtain ⟨hl, nn, hg⟩ := field_read is_key key_fs h
  obtain ⟨c1, c2, c3, c4, c5, cb, c6, c8, c9, c10, c11⟩ := cellsE
  rw [c10] at hl
  obtain ⟨y0, g0⟩ := hg 0 _ _ rfl
  obtain ⟨y1, g1⟩ := hg 1 _ _ rfl
  obtain ⟨y2, g2⟩ := hg 2 _ _ rfl
  obtain ⟨y3, g3⟩ := hg 3 _ _ rfl
  obtain ⟨y4, g4⟩ := hg 4 _ _ rfl
  obtain ⟨y5, g5⟩ := hg 5 _ _ rfl
  obtain ⟨y6, g6⟩ := hg 6 _ _ rfl
  obtain ⟨y7, g7⟩ := hg 7 _ _ rfl
  obtain ⟨y8, g8⟩ := hg 8 _ _ rfl
  obtain ⟨y9, g9⟩ := hg 9 _ _ rfl
  rw [c5] at g0 g2 g7
  rw [c1] at g1
  rw [c4] at g3 g4
  rw [c3] at g5 g6
  rw [c6] at g8
  rw [cb] at g9
  obtain ⟨z0, q0, -, w0⟩ := DataW.trod_int Try.underlying3 g0
  obtain ⟨s, a, q1, la, ya⟩ := adr_trod g1
  obtain ⟨z2, q2, -, w2⟩ := DataW.trod_int Try.underlying3 g2
  obtain ⟨z3, q3, -, w3⟩ := DataW.trod_int Try.underlying26 g3
  obtain ⟨z4, q4, -, w4⟩ := DataW.trod_int Try.underlying26 g4
  obtain ⟨z5, q5, -, w5⟩ := DataW.trod_int Try.underlying5 g5
  obtain ⟨z6, q6, -, w6⟩ := DataW.trod_int Try.underlying5 g6
  obtain ⟨z7, q7, -, w7⟩ := DataW.trod_int Try.underlying3 g7
  obtain ⟨z9, q9, -⟩ := DataW.trod_bool Try.underlying4 g9
  obtain ⟨A, m, c, zs, q8, hmc, hcm, hN, hy⟩ : ∃ A m c zs, (cs.drop 24).take 1 = [.slice A m c] ∧ m ≤ c ∧ c ≤ 9223372036854775807 ∧ Nums .u8 w w.heap.size A m zs ∧ ∀ x ∈ zs, Byte x := by
    rcases open_ints Try.underlying39 Try.underlying5 c3 g8 with ⟨hcs, -⟩ | ⟨x, ln, cp, zs, hcs, -, hl', hm, hz, -, hcell', hwz⟩
    · exact ⟨none, 0, 0, [], hcs, Nat.le_refl _, Nat.zero_le _, Nums.none_ 0, by simp⟩
    · unfold maxLen at hm
      rw [hsp, if_pos rfl] at hz
      refine ⟨some x, ln, cp, zs.take ln, hcs, hl', by omega, ⟨by simp; omega, fun hn => ?_⟩, fun n hn => bounds_u8 (hwz n (List.mem_of_mem_take hn))⟩
      obtain ⟨b, off, spot⟩ := x
      have hc := hcell' 0 (by omega)
      have hspot : spot = none := by simpa [Addr.add] using World.cell?_spot hc
      subst hspot
      refine ⟨b, off, rfl, ?_, fun i hi => ?_⟩
      · have := World.block_lt_of_cell? _ _ hc
        rw [memC.add_plain] at this
        exact this
      · have h1 := hcell' i (by omega)
        have h2 : (zs.take ln).getD i 0 = zs.getD i 0 := by simp [List.getD_eq_getElem?_getD, hi]
        rw [memC.add_plain] at h1
        rw [h2]; exact h1
  refine ⟨⟨⟨z0, s, a, z2, z3, z4, z5, z6, z7, z9⟩, A, m, c, zs⟩, ?_, ⟨⟨la, ya, bounds_i64 w0, bounds_i64 w2, bounds_u16 w3, bounds_u16 w4, bounds_u8 w5, bounds_u8 w6, bounds_i64 w7⟩, hN, hy, hmc, hcm⟩⟩
  have e : cs = (cs.drop 0).take 1 ++ ((cs.drop 1).take 17 ++ ((cs.drop 18).take 1 ++ ((cs.drop 19).take 1 ++ ((cs.drop 20).take 1 ++ ((cs.drop 21).take 1 ++ ((cs.drop 22).take 1 ++ ((cs.drop 23).take 1 ++ ((cs.drop 24).take 1 ++ ((cs.drop 25).take 1 ++ cs.drop 26))))))))) :=
    (split_at cs 0 1).trans (congrArg (_ ++ ·) ((split_at cs 1 17).trans (congrArg (_ ++ ·) ((split_at cs 18 1).trans (congrArg (_ ++ ·) ((split_at cs 19 1).trans (congrArg (_ ++ ·) ((split_at cs 20 1).trans (congrArg (_ ++ ·) ((split_at cs 21 1).trans (congrArg (_ ++ ·) ((split_at cs 22 1).trans (congrArg (_ ++ ·) ((split_at cs 23 1).trans (congrArg (_ ++ ·) ((split_at cs 24 1).trans (congrArg (_ ++ ·) (split_at cs 25 1))))))))))))))))))
  rw [q0, q1, q2, q3, q4, q5, q6, q7, q8, q9, show cs.drop 26 = [] from List.drop_eq_nil_of_le (by omega)] at e
  rw [e]
  rfl
set_option maxRecDepth 100000 in
theorem step_trod (hsp : ∀ b, spare b = true) (h : DataW.trod enc Try.prog w base spare held fuel 43 cs = some x) : ∃ s : Sk, cs = s.cells ∧ SkAt w w.heap.size s := by
  obtain ⟨hl, n, hg⟩ := field_read is_step stp_fs h
  obtain ⟨c1, c2, c3, c4, c5, cb, c6, c8, c9, c10, c11⟩ := cellsE
  rw [c11] at hl
  obtain ⟨y0, g0⟩ := hg 0 _ _ rfl
  obtain ⟨y1, g1⟩ := hg 1 _ _ rfl
  obtain ⟨y2, g2⟩ := hg 2 _ _ rfl
  rw [cb] at g0
  rw [c5] at g1
  rw [c10] at g2
  obtain ⟨ob, q0, -⟩ := DataW.trod_bool Try.underlying4 g0
  obtain ⟨lt, q1, -, wf⟩ := DataW.trod_int Try.underlying3 g1
  obtain ⟨e, q2, ok⟩ := key_trod hsp g2
  refine ⟨⟨ob, lt, e⟩, ?_, ⟨bounds_i64 wf, ok⟩⟩
  have e9 : cs = (cs.drop 0).take 1 ++ ((cs.drop 1).take 1 ++ ((cs.drop 2).take 26 ++ cs.drop 28)) := (split_at cs 0 1).trans (congrArg (_ ++ ·) ((split_at cs 1 1).trans (congrArg (_ ++ ·) (split_at cs 2 26))))
  rw [q0, q1, q2, show cs.drop 28 = [] from List.drop_eq_nil_of_le (by omega), List.append_nil] at e9
  rw [e9]
  rfl
end
section
variable {H : Type} {enc : TypeId × Value → H} {w : World} {base : Nat} {spare : Nat → Bool} {held : Bool} {r : Reach} {b0 : Nat} {v : Value} {d : DataW H} {ps : List MemPlace}
theorem open_pair (hval : Value.okWide Try.prog w r b0 30 v) (hd : DataW.Trod enc Try.prog w base spare held 30 v d ps) : ∃ p : Pr, v = .agg (prV p) ∧ p.Ok := by
  obtain ⟨fuel, hf⟩ := hd
  unfold Value.okWide at hval
  rw [is_pair] at hval
  obtain ⟨cs, rfl, -⟩ := hval
  obtain ⟨l⟩ := cs
  obtain ⟨p, h1, h2⟩ := pair_trod (cs := l) hf
  exact ⟨p, by rw [h1]; rfl, h2⟩
theorem open_key (hsp : ∀ b, spare b = true) (hval : Value.okWide Try.prog w r b0 41 v) (hd : DataW.Trod enc Try.prog w base spare held 41 v d ps) : ∃ e : Ke, v = .agg e.V ∧ KeAt w w.heap.size e := by
  obtain ⟨fuel, hf⟩ := hd
  unfold Value.okWide at hval
  rw [is_key] at hval
  obtain ⟨cs, rfl, -⟩ := hval
  obtain ⟨l⟩ := cs
  obtain ⟨e, h1, h2⟩ := key_trod (cs := l) hsp hf
  exact ⟨e, by rw [h1]; rfl, h2⟩
set_option maxRecDepth 100000 in
theorem open_steps (hsp : ∀ b, spare b = true) (hval : Value.okWide Try.prog w r b0 22 v) (hd : DataW.Trod enc Try.prog w base spare held 22 v d ps) : ∃ A n c ss, v = .slice A n c ∧ n ≤ c ∧ c ≤ 9223372036854775807 ∧ SksK w w.heap.size A n ss := by
  obtain ⟨a, len, cap, rfl⟩ := okWide_slice Try.underlying22 hval
  obtain ⟨fuel, hf⟩ := hd
  rcases Go.Deep.open_slice Try.underlying22 hf with ⟨hcs, -⟩ | ⟨a2, l2, c2, m, n, D, Pl, hcs, hb, hl, hm, hmm, -, hx⟩
  · simp [Value.cells] at hcs
    obtain ⟨rfl, rfl, rfl⟩ := hcs
    exact ⟨none, 0, 0, [], rfl, Nat.le_refl _, Nat.zero_le _, ⟨rfl, fun h => absurd h (Nat.lt_irrefl 0), by simp⟩⟩
  · simp [Value.cells] at hcs
    obtain ⟨rfl, rfl, rfl⟩ := hcs
    rw [hsp, if_pos rfl] at hmm
    rw [cellsE.2.2.2.2.2.2.2.2.2.2] at hx
    unfold maxLen at hm
    obtain ⟨f, hfx⟩ : ∃ f : Nat → Sk, ∀ i, i < len → SkAt w w.heap.size (f i) ∧ ∀ j v, (f i).cells[j]? = some v → w.cell? ((a2.add (i * 28)).add j) = some v := by
      have : ∀ i, ∃ s : Sk, i < len → SkAt w w.heap.size s ∧ ∀ j v, s.cells[j]? = some v → w.cell? ((a2.add (i * 28)).add j) = some v := fun i => by
        by_cases hi : i < len
        · obtain ⟨cs', h1, h2⟩ := hx i (by omega)
          obtain ⟨-, h4, h5⟩ := World.cells?_some h1
          obtain ⟨s, rfl, h6⟩ := step_trod hsp h2
          refine ⟨s, fun _ => ⟨h6, fun j v hv => ?_⟩⟩
          rw [h5 j (by rw [← h4]; exact (List.getElem?_eq_some_iff.1 hv).1)]
          exact hv
        · exact ⟨zSk, fun h => absurd h hi⟩
      exact ⟨fun i => Classical.choose (this i), fun i => Classical.choose_spec (this i)⟩
    refine ⟨some a2, len, cap, (List.range len).map f, rfl, hl, by omega, ⟨by simp, fun h0 => ?_, fun s hs => ?_⟩⟩
    · obtain ⟨b, off, spot⟩ := a2
      have hc0 := (hfx 0 h0).2 0 _ rfl
      have hspot : spot = none := by simpa [Addr.add] using World.cell?_spot hc0
      subst hspot
      refine ⟨b, off, rfl, ?_, fun i s hi j v hv => ?_⟩
      · have := World.block_lt_of_cell? _ _ hc0
        rw [memC.add_plain, memC.add_plain] at this
        exact this
      · have hil : i < len := by have := (List.getElem?_eq_some_iff.1 hi).1; simpa using this
        rw [List.getElem?_map, List.getElem?_range hil] at hi
        injection hi with hi
        subst hi
        have := (hfx i hil).2 j v hv
        rw [memC.add_plain, memC.add_plain] at this
        exact this
    · obtain ⟨i, hi, rfl⟩ := List.mem_map.1 hs
      exact (hfx i (List.mem_range.1 hi)).1
end
end Go.Proofs.Ytflfkhcbkhdahaa.mkC

/-
  How the arguments of a statement are opened: an array of numbers, a slice of numbers.
-/
namespace Go.Proofs.Ytflfkhcbkhdahaa.openC
open Go.ChangeShapes Go.WideShapes Go.ChangeAt Go.RowKit
set_option linter.unusedVariables false
variable {H : Type} {enc : TypeId × Value → H} {P : Program} {w : World} {base : Nat} {spare : Nat → Bool} {held : Bool}

theorem list2 {α : Type} {l : List α} (h : l.length = 2) : ∃ a b, l = [a, b] := by
  match l, h with
  | [a, b], _ => exact ⟨a, b, rfl⟩
theorem list3 {α : Type} {l : List α} (h : l.length = 3) : ∃ a b c, l = [a, b, c] := by
  match l, h with
  | [a, b, c], _ => exact ⟨a, b, c, rfl⟩
theorem list4 {α : Type} {l : List α} (h : l.length = 4) : ∃ a b c d, l = [a, b, c, d] := by
  match l, h with
  | [a, b, c, d], _ => exact ⟨a, b, c, d, rfl⟩
theorem open_array_ints {r : Reach} {b0 : Nat} {t e : TypeId} {n : Nat} {k : IntKind} {v : Value} {d : DataW H} {ps : List MemPlace} (ht : P.underlying t = some (.array n e)) (he : P.underlying e = some (.int k))
    (hce : P.cellsOf e = 1) (hct : P.cellsOf t = n) (hval : Value.okWide P w r b0 t v) (hd : DataW.Trod enc P w base spare held t v d ps) :
    ∃ zs : List Int, zs.length = n ∧ v = .agg (zs.map (Value.int k)).toArray ∧ ∀ x ∈ zs, (Lit.int k x).wf = true := by
  obtain ⟨cs, rfl, hsz, _⟩ : ∃ cs, v = .agg cs ∧ cs.size = P.cellsOf t ∧ Row.okWide P w r b0 t cs := by
    simpa [Value.okWide, ht] using hval
  obtain ⟨l⟩ := cs
  rw [hct] at hsz
  obtain ⟨fuel, hf⟩ := hd
  obtain ⟨xs, m, rfl, _, hl, hxl, hx⟩ := DataW.trod_array ht hf
  rw [hce] at hx
  have hsz' : l.length = n := by simpa using hsz
  have key : ∀ i, (hi : i < n) → ∃ z, l[i]? = some (.int k z) ∧ (Lit.int k z).wf = true := by
    intro i hi
    have h1 := hx i hi
    have hxi : xs[i]? = some (xs[i]'(by omega)) := List.getElem?_eq_getElem _
    rw [hxi] at h1
    obtain ⟨z, h2, _, h3⟩ := DataW.trod_int he h1
    refine ⟨z, ?_, h3⟩
    have h4 : ((Value.agg { toList := l }).cells.toList.drop (i * 1)).take 1 = [Value.int k z] := h2
    have h5 : (Value.agg { toList := l }).cells.toList = l := by simp [Value.cells]
    rw [h5, Nat.mul_one] at h4
    have h6 := congrArg (fun q => q[0]?) h4
    simpa using h6
  refine ⟨l.map fun v => match v with | .int _ z => z | _ => 0, by simpa using hsz', ?_, ?_⟩
  · congr 1
    simp only [List.map_map]
    congr 1
    apply List.ext_getElem?
    intro i
    by_cases hi : i < n
    · obtain ⟨z, hz, _⟩ := key i hi
      rw [List.getElem?_map, hz]; rfl
    · rw [List.getElem?_eq_none (by omega), List.getElem?_eq_none (by simp; omega)]
  · intro x hx
    obtain ⟨v, hv, rfl⟩ := List.mem_map.1 hx
    obtain ⟨i, hi, rfl⟩ := List.getElem_of_mem hv
    obtain ⟨z, hz, hw⟩ := key i (by omega)
    rw [List.getElem?_eq_getElem hi] at hz
    obtain hz := Option.some.inj hz
    rw [hz]; exact hw
/-- a slice of numbers that came in: of no number, or a row of cells -/
theorem open_slice_ints {r : Reach} {b0 : Nat} {t e : TypeId} {k : IntKind} {v : Value} {d : DataW H} {ps : List MemPlace} (ht : P.underlying t = some (.slice e)) (he : P.underlying e = some (.int k))
    (hce : P.cellsOf e = 1) (hsp : ∀ b, spare b = true) (hval : Value.okWide P w r b0 t v) (hd : DataW.Trod enc P w base spare held t v d ps) :
    (∃ a cap, v = .slice a 0 cap) ∨
    ∃ (b off len cap : Nat) (zs : List Int), v = .slice (some ⟨b, off, none⟩) len cap ∧ len ≤ cap ∧ cap ≤ maxLen ∧ zs.length = len ∧ (∀ i, i < len → w.cell? ⟨b, off + i, none⟩ = some (.int k (zs.getD i 0))) ∧ ∀ n ∈ zs, (Lit.int k n).wf = true := by
  obtain ⟨a, len, cap, rfl⟩ := okWide_slice ht hval
  obtain ⟨fuel, hf⟩ := hd
  rcases open_ints ht he hce hf with ⟨hcs, _⟩ | ⟨x, l, c, zs, hcs, _, hl, hm, hz, _, hcell, hwz⟩
  · simp [Value.cells] at hcs
    obtain ⟨rfl, rfl, rfl⟩ := hcs
    exact .inl ⟨_, _, rfl⟩
  · simp [Value.cells] at hcs
    obtain ⟨rfl, rfl, rfl⟩ := hcs
    by_cases h0 : len = 0
    · subst h0; exact .inl ⟨_, _, rfl⟩
    · rw [hsp, if_pos rfl] at hz
      obtain ⟨b, off, spot⟩ := x
      have hc := hcell 0 (by omega)
      have hspot : spot = none := by simpa [Addr.add] using World.cell?_spot hc
      subst hspot
      refine .inr ⟨b, off, len, cap, zs.take len, rfl, hl, hm, by simp; omega, ?_, fun n hn => hwz n (List.mem_of_mem_take hn)⟩
      intro i hi
      have h1 := hcell i (by omega)
      have h2 : (zs.take len).getD i 0 = zs.getD i 0 := by simp [List.getD_eq_getElem?_getD, hi]
      rw [h2]
      have e : (Addr.add ⟨b, off, none⟩ i) = (⟨b, off + i, none⟩ : Addr) := by
        unfold Addr.add; split
        · rename_i hi0; subst hi0; rfl
        · rfl
      rw [e] at h1; exact h1
end Go.Proofs.Ytflfkhcbkhdahaa.openC
