/-
  7 texts of a proof, joined.
-/
import Derived.Test.YthbgjjfhgbkbdaaMg22
import Derived.Lib.SlBytesConst
import Derived.Lib.AppendStr
import Derived.Test.YthbgjjfhgbkbdaaMg13

/-
  Traffic keys: what Key of the code does.
-/
namespace Go.Proofs.Ythbgjjfhgbkbdaa.kdC
open Go.ChangeShapes Go.WideShapes Go.ChangeAt Go.RowKit
open Go.Proofs.Ythbgjjfhgbkbdaa.memC Go.Proofs.Ythbgjjfhgbkbdaa.genC Go.Proofs.Ythbgjjfhgbkbdaa.aesM Go.Proofs.Ythbgjjfhgbkbdaa.aesC Go.Proofs.Ythbgjjfhgbkbdaa.butC Go.Proofs.Ythbgjjfhgbkbdaa.freeC Go.Proofs.Ythbgjjfhgbkbdaa.partsC
set_option linter.unusedVariables false
/-- what stands ahead of the context -/
def aheadL : List Int := [1, 84, 67, 80, 45, 65, 79]
/-- what a key is made of -/
def inpL (ctx : List Int) (b : Int) : List Int := aheadL ++ (ctx ++ [0, b])
def ints (ns : List Nat) : List Int := ns.map fun n : Nat => (n : Int)
theorem ints_len (ns : List Nat) : (ints ns).length = ns.length := by simp [ints]
theorem ints_vec (ns : List Nat) : ((ints ns).map (Value.int .u8)).toArray = vec ns := vec_of ns
theorem ints_byte {ns : List Nat} (h : BY ns) : ∀ x ∈ ints ns, Byte x := by
  intro x hx
  obtain ⟨n, hn, rfl⟩ := List.mem_map.1 hx
  have := h n hn
  unfold Byte; omega
/-- the traffic key -/
def shaK (m ctx : List Int) : List Int := Go.Proofs.Ythbgjjfhgbkbdaa.hmM.macL m (inpL ctx 160)
def aesK (m ctx : List Int) : List Int := ints (macL (fitL m) (nats (inpL ctx 128)))
def keyL (a : Int) (m ctx : List Int) : List Int := if sizeN a = 0 ∨ m.length = 0 ∨ 80 < m.length then [] else if a = 1 then shaK m ctx else aesK m ctx
def keyE (a : Int) (m : List Int) : Int := if sizeN a = 0 then 11 else if m.length = 0 ∨ 80 < m.length then 1 else 0
/-- some bytes, and an error -/
def TwoRet (w : World) (xs : List Int) (er : Int) (e : Ending) (w' : World) : Prop := ∃ A n c, e = .returned (.tuple #[.slice A n c, .int .i64 er]) ∧ Key w' A n c xs ∧ Below w.heap.size w w'
theorem key_nil (w : World) : Key w none 0 0 [] := ⟨Nums.none_ 0, by simp, Nat.le_refl _, Nat.zero_le _⟩
theorem lit64 (w : World) (xs : List Int) (T : TypeId) : Nums .u64 (w.alloc (.cells (xs.map (Value.int .u64)).toArray T)) (w.alloc (.cells (xs.map (Value.int .u64)).toArray T)).heap.size (some ⟨w.heap.size, 0, none⟩) xs.length xs := by
  refine ⟨rfl, fun _ => ⟨_, 0, rfl, by rw [alloc_size]; exact Nat.lt_succ_self _, fun i hi => ?_⟩⟩
  rw [cell_of_row _ w.heap.size (0 + i) _ _ (0, 0) (heap_alloc_new w _)]
  simp [List.getD_eq_getElem?_getD, hi]
theorem numL_byte (s : Nat) (x : Int) : ∀ y ∈ octC.numL s x, Byte y := by
  induction s with
  | zero => simp [octC.numL]
  | succ s ih =>
    intro y hy
    rcases List.mem_cons.1 hy with rfl | h
    · unfold octC.byteAt Byte; omega
    · exact ih y h
theorem putL_byte {bs : List Int} (h : ∀ x ∈ bs, Byte x) (s : Nat) (ns : List Int) : ∀ y ∈ octC.putL bs s ns, Byte y := by
  intro y hy
  rcases List.mem_append.1 hy with h1 | h1
  · exact h y h1
  · obtain ⟨n, _, h2⟩ := List.mem_flatMap.1 h1
    exact numL_byte s n y h2
/-- some bytes that are the call's own, of a number of their own -/
def BytesRet (w : World) (N : Nat) (T : List Int) (e : Ending) (w' : World) : Prop := ∃ A c, e = .returned (.slice A N c) ∧ Own .u8 5 w' w.heap.size (.slice A N c) T ∧ Key w' A N c T ∧ Below w.heap.size w w'
theorem bytes_ret {w w' : World} {e : Ending} {v : Value} {N : Nat} {T : List Int} (he : e = .returned v) (O : Own .u8 5 w' w.heap.size v T) (B : Below w.heap.size w w') (hN : T.length = N) (hy : ∀ x ∈ T, Byte x) : BytesRet w N T e w' := by
  obtain ⟨A, c, rfl, h1, h2, N1⟩ := O.form
  rw [hN] at he O N1 h1
  exact ⟨A, c, he, O, ⟨N1, hy, h1, h2⟩, B⟩
theorem put_key {A : Option Addr} {n c : Nat} {P : Option Addr} {m c2 : Nat} {bs ns : List Int} {w : World} (s : Nat) (z : Int) (N : Nat) (T : List Int) (hz : (s : Int) = z) (hs : s ≤ 8) (hb : Key w A n c bs) (hns : Nums .u64 w w.heap.size P m ns) (hn : n ≤ 3000) (hm : m ≤ 300)
    (hT : octC.putL bs s ns = T) (hN : T.length = N) : Calls Try.prog 20 #[.slice A n c, .int .i64 z, .slice P m c2] w (BytesRet w N T) := by
  subst hz
  have e : octC.fitN (s : Int) = s := by unfold octC.fitN; omega
  refine (octC.put_any A n c s P m c2 bs ns w (by omega) (by omega) hb.nums hns hn hm).mono fun e' w' ⟨v, h1, h2, h3⟩ => ?_
  rw [e, hT] at h2
  exact bytes_ret h1 h2 h3 hN (by rw [← hT]; exact putL_byte hb.byte _ _)
theorem rput_key {A : Option Addr} {n c : Nat} {P : Option Addr} {m c2 : Nat} {bs ns : List Int} {w : World} (s : Nat) (z : Int) (N : Nat) (T : List Int) (hz : (s : Int) = z) (hs : s ≤ 8) (hb : Key w A n c bs) (hns : Nums .u64 w w.heap.size P m ns) (hn : n ≤ 3000) (hm : m ≤ 300)
    (hT : octC.putL bs s ns = T) (hN : T.length = N) : Calls Try.prog 24 #[.slice A n c, .int .i64 z, .slice P m c2] w (BytesRet w N T) := by
  subst hz
  have e : octC.fitN (s : Int) = s := by unfold octC.fitN; omega
  refine (octC.putref_any A n c s P m c2 bs ns w (by omega) (by omega) hb.nums hns hn hm).mono fun e' w' ⟨v, h1, h2, h3⟩ => ?_
  rw [e, hT] at h2
  exact bytes_ret h1 h2 h3 hN (by rw [← hT]; exact putL_byte hb.byte _ _)
theorem key_none (a : Int) (A : Option Addr) (n c : Nat) (A2 : Option Addr) (n2 c2 : Nat) (w : World) (h : sizeN a = 0) :
    Calls Try.prog 11 #[.int .i64 a, .slice A n c, .slice A2 n2 c2] w (TwoRet w [] 11) := by
  have SZ := Lib.hid (fun w => (size_any a w).mono fun e w' h2 => (show e = .returned (.int .i64 0) ∧ w = w' by rw [h] at h2; exact h2))
  clear h
  go_enter Try.func11, Try.ntmps11
  go_wp2_with (first
    | (go_at_call 13; (with_reducible refine (SZ.out _).mono ?_); rintro e w' ⟨rfl, rfl⟩))
  go_ret2
  exact ⟨none, 0, 0, rfl, key_nil _, Below.refl _ _⟩
theorem key_wrong (a : Int) (A : Option Addr) (n c : Nat) (A2 : Option Addr) (n2 c2 : Nat) (w : World) (s : Nat) (hs : sizeN a = s) (h : 0 < s) (hn : n ≤ 9223372036854775807) (hw : n = 0 ∨ 80 < n) :
    Calls Try.prog 11 #[.int .i64 a, .slice A n c, .slice A2 n2 c2] w (TwoRet w [] 1) := by
  have SZ := Lib.hid (fun w => (size_any a w).mono fun e w' h2 => (show e = .returned (.int .i64 s) ∧ w = w' by rw [hs] at h2; exact h2))
  have hz : (s : Int) ≠ 0 := by omega
  clear hs
  rcases hw with rfl | h80
  · go_enter Try.func11, Try.ntmps11
    go_wp2_with (first
      | (go_at_call 13; (with_reducible refine (SZ.out _).mono ?_); rintro e w' ⟨rfl, rfl⟩))
    go_ret2
    exact ⟨none, 0, 0, rfl, key_nil _, Below.refl _ _⟩
  · have d2 : (80 : Int) < (n : Int) := by omega
    have d3 : (n : Int) ≠ 0 := by omega
    go_enter Try.func11, Try.ntmps11
    go_wp2_with (first
      | (go_at_call 13; (with_reducible refine (SZ.out _).mono ?_); rintro e w' ⟨rfl, rfl⟩))
    go_ret2
    exact ⟨none, 0, 0, rfl, key_nil _, Below.refl _ _⟩
end Go.Proofs.Ythbgjjfhgbkbdaa.kdC

/-
  Traffic keys: what Key of the code does, where it makes one.
-/
namespace Go.Proofs.Ythbgjjfhgbkbdaa.kdC
open Go.ChangeShapes Go.WideShapes Go.ChangeAt Go.RowKit
open Go.Proofs.Ythbgjjfhgbkbdaa.memC Go.Proofs.Ythbgjjfhgbkbdaa.genC Go.Proofs.Ythbgjjfhgbkbdaa.aesM Go.Proofs.Ythbgjjfhgbkbdaa.aesC Go.Proofs.Ythbgjjfhgbkbdaa.butC Go.Proofs.Ythbgjjfhgbkbdaa.freeC Go.Proofs.Ythbgjjfhgbkbdaa.partsC
set_option linter.unusedVariables false
def aheadC : Array Value := (aheadL.map (Value.int .u8)).toArray
/-- the words ahead as they lie in memory, marked; behind them the row of three parts -/
theorem ahead_part (w : World) (fr : Nat × Nat) : PartAt (w.alloc (.cells aheadC 5 fr)) (w.alloc (.cells aheadC 5 fr)).heap.size ⟨some ⟨w.heap.size, 0, none⟩, 7, 7, aheadL⟩ := by
  refine ⟨⟨rfl, fun _ => ⟨_, 0, rfl, by rw [alloc_size]; exact Nat.lt_succ_self _, fun i hi => ?_⟩⟩, (by decide : 7 ≤ 10000), (show ∀ x ∈ aheadL, Byte x by unfold Byte; decide), Nat.le_refl _, (by decide : 7 ≤ 9223372036854775807)⟩
  rw [cell_of_row _ w.heap.size (0 + i) _ _ fr (heap_alloc_new w _)]
  unfold aheadC
  have : i < aheadL.length := hi
  simp [List.getD_eq_getElem?_getD, this]
/-- the world in which the three parts lie -/
def laid3 (w : World) (A2 : Option Addr) (n2 c2 : Nat) (A3 : Option Addr) (c3 : Nat) : World :=
  (w.alloc (.cells aheadC 5 (7, 8))).alloc (.cells #[.slice (some ⟨w.heap.size, 0, none⟩) 7 7, .slice A2 n2 c2, .slice A3 2 c3] 22)
theorem laid3_parts {w : World} {A2 A3 : Option Addr} {n2 c2 c3 : Nat} {ctx bs : List Int} (h2 : Key w A2 n2 c2 ctx) (hn : n2 ≤ 10000) (h3 : Key w A3 2 c3 bs) :
    Parts (laid3 w A2 n2 c2 A3 c3) (laid3 w A2 n2 c2 A3 c3).heap.size (some ⟨w.heap.size + 1, 0, none⟩) [⟨some ⟨w.heap.size, 0, none⟩, 7, 7, aheadL⟩, ⟨A2, n2, c2, ctx⟩, ⟨A3, 2, c3, bs⟩] := by
  have B := alloc_below w (.cells aheadC 5 (7, 8))
  have h := parts3 (ahead_part w (7, 8)) ((h2.below B).partAt hn) ((h3.below B).partAt (by omega)) 22
  rw [show (w.alloc (.cells aheadC 5 (7, 8))).heap.size = w.heap.size + 1 from alloc_size _ _] at h
  exact h
theorem laid3_below (w : World) (A2 : Option Addr) (n2 c2 : Nat) (A3 : Option Addr) (c3 : Nat) : Below w.heap.size w (laid3 w A2 n2 c2 A3 c3) :=
  (alloc_below w _).alloc (alloc_below w _).size _
theorem cat_inp (P Q R : Part) (h : P.bs = aheadL) {ctx : List Int} (h2 : Q.bs = ctx) {b : Int} (h3 : R.bs = [0, b]) : catL [P, Q, R] = inpL ctx b := by
  simp [catL, inpL, h, h2, h3]
theorem cv_ahead (w : World) : (convert 22 22 (.slice (some ⟨w.heap.size, 0, none⟩) 7 7)).run Try.prog (w.alloc (.cells #[.int .u8 1, .int .u8 84, .int .u8 67, .int .u8 80, .int .u8 45, .int .u8 65, .int .u8 79] 5)) = .ok (.slice (some ⟨w.heap.size, 0, none⟩) 7 7) (w.alloc (.cells aheadC 5 (7, 8))) :=
  Lib.run_convert_bytes_const (P := Try.prog) w 22 5 aheadC 7 7 Try.underlying22 Try.underlying5
theorem cells_nums {w : World} {g : Nat} {T : TypeId} {xs : List Int} {N : Nat} (h : w.heap[g]? = some (.cells (xs.map (Value.int .u8)).toArray T (0, 0))) (hN : xs.length = N) (hy : ∀ x ∈ xs, Byte x) (hm : N ≤ 9223372036854775807) : Key w (some ⟨g, 0, none⟩) N N xs := by
  have hg : g < w.heap.size := by
    rcases Nat.lt_or_ge g w.heap.size with h' | h'
    · exact h'
    · rw [Array.getElem?_eq_none h'] at h; cases h
  refine ⟨⟨hN, fun _ => ⟨g, 0, rfl, hg, fun i hi => ?_⟩⟩, hy, Nat.le_refl _, hm⟩
  rw [cell_of_row _ g (0 + i) _ _ (0, 0) h]
  simp [List.getD_eq_getElem?_getD, hN, hi]
theorem putL_2 (b : Int) (h0 : 0 ≤ b) (h1 : b ≤ 255) (bs : List Int) : octC.putL bs 2 [b] = bs ++ [0, b] := by
  have e1 : octC.byteAt b 1 = 0 := by unfold octC.byteAt; omega
  have e0 : octC.byteAt b 0 = b := by unfold octC.byteAt; omega
  simp [octC.putL, octC.numL, e1, e0]
theorem sha_byte20 (m ctx : List Int) : ∀ x ∈ shaK m ctx, Byte x := hmM.sha_byte _
theorem shaK_len (m ctx : List Int) : (shaK m ctx).length = 20 := hmM.mac_len _ _
theorem aesK_len (m ctx : List Int) : (aesK m ctx).length = 16 := by unfold aesK; rw [ints_len]; exact macL_len _ _
theorem aesK_byte {m : List Int} (h : ∀ x ∈ m, Byte x) (ctx : List Int) : ∀ x ∈ aesK m ctx, Byte x := ints_byte (macL_by (fitL_by h) (fitL_len m) _)
theorem z20_info : (Try.prog.info? 54).map (·.size) = some 20 := by kernel_rfl
set_option maxRecDepth 100000 in
set_option maxHeartbeats 1000000 in
theorem key_sha (A : Option Addr) (n c : Nat) (m : List Int) (A2 : Option Addr) (n2 c2 : Nat) (ctx : List Int) (w : World) (hm : Key w A n c m) (hc : Key w A2 n2 c2 ctx) (h1 : 1 ≤ n) (h2 : n ≤ 80) (hn2 : n2 ≤ 300) :
    Calls Try.prog 11 #[.int .i64 1, .slice A n c, .slice A2 n2 c2] w (TwoRet w (shaK m ctx) 0) := by
  have SZ := Lib.hid (fun w => (size_any 1 w).mono fun e w' h2 => (show e = .returned (.int .i64 20) ∧ w = w' from h2))
  have d1 : (n : Int) ≠ 0 := by omega
  have d2 : ¬ (80 : Int) < (n : Int) := by omega
  have d3 : decide ((80 : Int) < (n : Int)) = false := decide_eq_false d2
  obtain ⟨Z, hZ⟩ : ∃ Z, Z = ((hmM.nz 20).map (Value.int .u8)).toArray := ⟨_, rfl⟩
  have hzv := Go.Proofs.Ythbgjjfhgbkbdaa.hmC.z20
  rw [← hZ] at hzv
  obtain ⟨X, hX⟩ : ∃ X, X = ((shaK m ctx).map (Value.int .u8)).toArray := ⟨_, rfl⟩
  have UX := Lib.hid (show (Try.prog.info? 54).map (·.size) = some X.size by rw [z20_info, hX]; simp [shaK_len])
  have ZX := Lib.hid (show Z.size = X.size by rw [hZ, hX]; simp [hmM.nz, shaK_len])
  have OX := Lib.hid (show X.all (·.oneCell') = true by rw [hX]; exact shaC.nums_one _)
  have PT := Lib.hid (put_key (A := none) (n := 0) (c := 0) (P := some ⟨w.heap.size, 0, none⟩) (m := 1) (c2 := 1) (bs := []) (ns := [160]) (w := w.alloc (.cells #[.int .u64 160] 53)) 2 2 2 [0, 160] rfl (by decide) (key_nil _) (lit64 w [160] 53) (by decide) (by decide) (putL_2 160 (by decide) (by decide) []) rfl)
  have B0 := alloc_below w (.cells #[.int .u64 160] 53)
  have OF := Lib.hid (fun (w1 : World) (A3 : Option Addr) (c3 : Nat) (B : Below w.heap.size w w1) (h3 : Key w1 A3 2 c3 [0, 160]) => (hmC.cof_any A n c m (some ⟨w1.heap.size + 1, 0, none⟩) 3 3 _ (laid3 w1 A2 n2 c2 A3 c3) ((hm.below (B.trans ((laid3_below _ _ _ _ _ _).mono B.size))).nums) hm.byte (by omega) hm.cap hm.max (laid3_parts (hc.below B) (by omega) h3) rfl (by decide)).mono fun e w'' h => (show e = .returned (.agg X) ∧ Below w1.heap.size w1 w'' from ⟨by rw [hX]; rw [h.1, cat_inp _ _ _ rfl rfl rfl]; rfl, (laid3_below w1 A2 n2 c2 A3 c3).trans (h.2.mono (laid3_below w1 A2 n2 c2 A3 c3).size)⟩))
  have HX := Lib.hid hX
  have HB0 := Lib.hid B0
  clear hZ hX hm hc B0
  go_enter Try.func11, Try.ntmps11
  go_upto_region 7 with (first
    | (go_at_call 13; (with_reducible refine (SZ.out _).mono ?_); rintro e w' ⟨rfl, rfl⟩)
    | (go_at_call 20; (with_reducible refine PT.out.mono ?_); rintro e w1 ⟨A3, c3, rfl, O3, K3, B3⟩))
  have B1 : Below w.heap.size w w1 := HB0.out.trans (B3.mono HB0.out.size)
  have cv := cv_ahead w1
  have OG := Lib.hid (OF.out w1 A3 c3 B1 K3)
  unfold laid3 at OG
  obtain ⟨W1, hW1⟩ : ∃ W1, W1 = w1.alloc (.cells aheadC 5 (7, 8)) := ⟨_, rfl⟩
  rw [← hW1] at cv OG
  have HS1 := alloc_size w1 (.cells aheadC 5 (7, 8))
  rw [← hW1] at HS1
  have HW1 := Lib.hid hW1
  have HB1 := Lib.hid B1
  clear hW1 O3 K3 B3 B1 PT OF HB0
  go_upto_region 8 with (first
    | (go_at_call 21; (with_reducible refine OG.out.mono ?_); rintro e w4 ⟨rfl, B4⟩)
    | (refine wpList_store_row rfl 54 (.tmp 9) (.tmp 38) rfl w4.heap.size X rfl rfl _ _ (heap_alloc_new _ _) UX.out ZX.out OX.out ?_))
  rw [World.setRow_alloc_new]
  have R1 : Key (w4.alloc (.cells X 54)) (some ⟨w4.heap.size, 0, none⟩) 20 20 (shaK m ctx) := cells_nums (by rw [HX.out]; exact heap_alloc_new _ _) (shaK_len _ _) (sha_byte20 _ _) (by decide)
  have BL : Below w.heap.size w (w4.alloc (.cells X 54)) := ((HB1.out.trans (B4.mono HB1.out.size))).alloc ((HB1.out.trans (B4.mono HB1.out.size))).size _
  have HR1 := Lib.hid R1
  have HBL := Lib.hid BL
  clear R1 BL B4 OG HB1 HW1 HS1 cv hzv
  generalize w4.alloc (.cells X 54) = w5 at *
  generalize w4.heap.size = g at *
  go_wp2_with fail
  go_ret2
  exact ⟨_, _, _, rfl, HR1.out, HBL.out⟩
end Go.Proofs.Ythbgjjfhgbkbdaa.kdC

/-
  Traffic keys: what Key of the code does, by AES; and in all.
-/
namespace Go.Proofs.Ythbgjjfhgbkbdaa.kdC
open Go.ChangeShapes Go.WideShapes Go.ChangeAt Go.RowKit
open Go.Proofs.Ythbgjjfhgbkbdaa.memC Go.Proofs.Ythbgjjfhgbkbdaa.genC Go.Proofs.Ythbgjjfhgbkbdaa.aesM Go.Proofs.Ythbgjjfhgbkbdaa.aesC Go.Proofs.Ythbgjjfhgbkbdaa.butC Go.Proofs.Ythbgjjfhgbkbdaa.freeC Go.Proofs.Ythbgjjfhgbkbdaa.partsC
set_option linter.unusedVariables false
set_option maxRecDepth 100000 in
set_option maxHeartbeats 1000000 in
theorem key_aes (A : Option Addr) (n c : Nat) (m : List Int) (A2 : Option Addr) (n2 c2 : Nat) (ctx : List Int) (w : World) (hm : Key w A n c m) (hc : Key w A2 n2 c2 ctx) (h1 : 1 ≤ n) (h2 : n ≤ 80) (hn2 : n2 ≤ 300) :
    Calls Try.prog 11 #[.int .i64 2, .slice A n c, .slice A2 n2 c2] w (TwoRet w (aesK m ctx) 0) := by
  have SZ := Lib.hid (fun w => (size_any 2 w).mono fun e w' h2 => (show e = .returned (.int .i64 16) ∧ w = w' from h2))
  have d1 : (n : Int) ≠ 0 := by omega
  have d2 : ¬ (80 : Int) < (n : Int) := by omega
  have d3 : decide ((80 : Int) < (n : Int)) = false := decide_eq_false d2
  obtain ⟨Z, hZ⟩ : ∃ Z, Z = vec (zs 16) := ⟨_, rfl⟩
  have hzv := zero16
  rw [← hZ] at hzv
  obtain ⟨K, hK⟩ : ∃ K, K = vec (fitL m) := ⟨_, rfl⟩
  obtain ⟨X, hX⟩ : ∃ X, X = vec (macL (fitL m) (nats (inpL ctx 128))) := ⟨_, rfl⟩
  have UX := Lib.hid (show (Try.prog.info? 32).map (·.size) = some X.size by rw [hX]; exact vec_info (macL_len _ _))
  have ZX := Lib.hid (show Z.size = X.size by rw [hZ, hX, vec_size, vec_size, macL_len, zs_len])
  have OX := Lib.hid (show X.all (·.oneCell') = true by rw [hX]; exact vec_one _)
  have XK := Lib.hid (show X = ((aesK m ctx).map (Value.int .u8)).toArray by rw [hX]; exact (ints_vec _).symm)
  have PT := Lib.hid (put_key (A := none) (n := 0) (c := 0) (P := some ⟨w.heap.size, 0, none⟩) (m := 1) (c2 := 1) (bs := []) (ns := [128]) (w := w.alloc (.cells #[.int .u64 128] 53)) 2 2 2 [0, 128] rfl (by decide) (key_nil _) (lit64 w [128] 53) (by decide) (by decide) (putL_2 128 (by decide) (by decide) []) rfl)
  have B0 := alloc_below w (.cells #[.int .u64 128] 53)
  have FT := Lib.hid (fun (w1 : World) (B : Below w.heap.size w w1) => (show Calls Try.prog 23 #[.slice A n c] w1 (Ret w1 (.agg K)) by rw [hK]; exact fit_any A n c m w1 (hm.below B) (by omega)))
  have OF := Lib.hid (fun (w1 : World) (A3 : Option Addr) (c3 : Nat) (B : Below w.heap.size w w1) (h3 : Key w1 A3 2 c3 [0, 128]) => (cof_any (some ⟨w1.heap.size + 1, 0, none⟩) 3 3 _ (fitL m) (laid3 w1 A2 n2 c2 A3 c3) (laid3_parts (hc.below B) (by omega) h3) rfl (by decide) (fitL_len m) (fitL_by hm.byte)).mono fun e w'' h => (show e = .returned (.agg X) ∧ Below w1.heap.size w1 w'' from ⟨by rw [hX]; rw [h.1, cat_inp _ _ _ rfl rfl rfl], (laid3_below w1 A2 n2 c2 A3 c3).trans (h.2.mono (laid3_below w1 A2 n2 c2 A3 c3).size)⟩))
  rw [← hK] at OF
  have BY1 := Lib.hid (aesK_byte hm.byte ctx)
  have HX := Lib.hid hX
  have HB0 := Lib.hid B0
  clear hZ hX hK hm hc B0
  go_enter Try.func11, Try.ntmps11
  go_upto_region 9 with (first
    | (go_at_call 13; (with_reducible refine (SZ.out _).mono ?_); rintro e w' ⟨rfl, rfl⟩)
    | (go_at_call 20; (with_reducible refine PT.out.mono ?_); rintro e w1 ⟨A3, c3, rfl, O3, K3, B3⟩))
  have B1 : Below w.heap.size w w1 := HB0.out.trans (B3.mono HB0.out.size)
  have cv := cv_ahead
  have HB1 := Lib.hid B1
  have HK3 := Lib.hid K3
  clear O3 K3 B3 B1 PT HB0
  go_upto_region 10 with (first
    | (go_at_call 23; (with_reducible refine (FT.out _ HB1.out).mono ?_); rintro e w2 ⟨rfl, B2⟩
       have HB2 := Lib.hid (HB1.out.trans (B2.mono HB1.out.size))
       have OG := Lib.hid (OF.out w2 A3 c3 HB2.out (HK3.out.below B2))
       unfold laid3 at OG)
    | (go_at_call 22; (with_reducible refine OG.out.mono ?_); rintro e w4 ⟨rfl, B4⟩)
    | (refine wpList_store_row rfl 32 (.tmp 10) (.tmp 47) rfl w4.heap.size X rfl rfl _ _ (heap_alloc_new _ _) UX.out ZX.out OX.out ?_))
  rw [World.setRow_alloc_new]
  have R1 : Key (w4.alloc (.cells X 32)) (some ⟨w4.heap.size, 0, none⟩) 16 16 (aesK m ctx) := cells_nums (by rw [XK.out]; exact heap_alloc_new _ _) (aesK_len _ _) BY1.out (by decide)
  have BL : Below w.heap.size w (w4.alloc (.cells X 32)) := ((HB2.out.trans (B4.mono HB2.out.size))).alloc ((HB2.out.trans (B4.mono HB2.out.size))).size _
  have HR1 := Lib.hid R1
  have HBL := Lib.hid BL
  clear R1 BL B4 OG HB1 HB2 B2 cv hzv
  generalize w4.alloc (.cells X 32) = w5 at *
  generalize w4.heap.size = g at *
  go_wp2_with fail
  go_ret2
  exact ⟨_, _, _, rfl, HR1.out, HBL.out⟩
theorem key_any (a : Int) (A : Option Addr) (n c : Nat) (m : List Int) (A2 : Option Addr) (n2 c2 : Nat) (ctx : List Int) (w : World) (hm : Key w A n c m) (hc : Key w A2 n2 c2 ctx) (hn2 : n2 ≤ 300) :
    Calls Try.prog 11 #[.int .i64 a, .slice A n c, .slice A2 n2 c2] w (TwoRet w (keyL a m ctx) (keyE a m)) := by
  have hl := hm.nums.len
  have hx := hm.cap
  have hx2 := hm.max
  unfold keyL keyE
  by_cases h0 : sizeN a = 0
  · rw [if_pos (.inl h0), if_pos h0]
    exact key_none a A n c A2 n2 c2 w h0
  · rw [if_neg h0]
    by_cases hw : n = 0 ∨ 80 < n
    · rw [if_pos (by rw [hl]; exact .inr hw), if_pos (by rw [hl]; exact hw)]
      exact key_wrong a A n c A2 n2 c2 w _ rfl (by omega) (by omega) hw
    · rw [if_neg (c := sizeN a = 0 ∨ m.length = 0 ∨ 80 < m.length) (by rw [hl]; exact fun h => h.elim h0 hw), if_neg (c := m.length = 0 ∨ 80 < m.length) (by rw [hl]; exact hw)]
      by_cases h1 : a = 1
      · subst h1
        rw [if_pos rfl]
        exact key_sha A n c m A2 n2 c2 ctx w hm hc (by omega) (by omega) hn2
      · rw [if_neg h1]
        have h2 : a = 2 := by
          unfold sizeN at h0
          rw [if_neg h1] at h0
          by_cases h2 : a = 2
          · exact h2
          · rw [if_neg h2] at h0; exact absurd rfl h0
        subst h2
        exact key_aes A n c m A2 n2 c2 ctx w hm hc (by omega) (by omega) hn2
end Go.Proofs.Ythbgjjfhgbkbdaa.kdC

/-
  Traffic keys: what the document's Key does.
-/
namespace Go.Proofs.Ythbgjjfhgbkbdaa.kdC
open Go.ChangeShapes Go.WideShapes Go.ChangeAt Go.RowKit
open Go.Proofs.Ythbgjjfhgbkbdaa.memC Go.Proofs.Ythbgjjfhgbkbdaa.genC Go.Proofs.Ythbgjjfhgbkbdaa.aesM Go.Proofs.Ythbgjjfhgbkbdaa.aesC Go.Proofs.Ythbgjjfhgbkbdaa.butC Go.Proofs.Ythbgjjfhgbkbdaa.freeC Go.Proofs.Ythbgjjfhgbkbdaa.partsC
set_option linter.unusedVariables false
section
variable {P : Program} {ops : Array Oper} {rest : List Oper} {o : Oper} {a : Act} {Q : Exit → Act → World → Prop}
/-- append(own, text...), the text a constant -/
theorem wpList_appStr (w : World) (hgd : o.guard = none) (s x : Operand) (t u : TypeId)
    (ho : o.op = .call { callee := .builtin .append, args := #[s, x], argTypes := #[t, u] })
    (e : TypeId) (i : TypeInfo) (z : Value) (ht : P.underlying t = some (.slice e)) (hu : P.underlying u = some .string) (hi : P.info? e = some i) (hz : i.zero = some (.int .u8 0))
    (hsize : i.size = 1) (hby : i.bytes = 1) (base : Nat) (v : Value) (xs : List Int) (hs : a.eval s = v) (hown : Own .u8 e w base v xs)
    (str : ByteArray) (m : Nat) (news : List Int) (hx : a.eval x = .string str) (hc : Lib.strCells str = news.map (Value.int .u8)) (hm : str.size = m) (h63 : xs.length + m ≤ maxLen) (hbytes : xs.length + m ≤ 140737488355328) (hbase : base ≤ w.heap.size) (L : Nat) (hL : xs.length + m = L)
    (h : ∀ A' c' w', L ≤ c' → c' ≤ maxLen → Own .u8 e w' base (.slice A' L c') (xs ++ news) → Below base w w' → wpList P ops Q rest (a.put o.dst (.slice A' L c')) w') : wpList P ops Q (o :: rest) a w := by
  subst hm
  obtain ⟨v', w', hrun, h2, h3, _⟩ := Lib.run_append_own_string (P := P) w base t u o.type e i ht hu hi hz hsize hby v _ _ hown str h63 hbytes hbase
  have hnl : news.length = str.size := by rw [← Lib.strCells_length, hc, List.length_map]
  have O : Own .u8 e w' base v' (xs ++ news) := by
    unfold Own
    rw [List.length_append, hnl, List.map_append, ← hc]
    exact h2
  have e1 : (xs ++ news).length = L := by rw [List.length_append, hnl]; exact hL
  obtain ⟨A', c', e2, g1, g2, N⟩ := O.form
  rw [e1] at e2 g1 N
  subst e2
  have hh := h A' c' w' g1 g2 O (grown_below h3 hbase fun g hg => (hown.blk g hg).1)
  refine wpList_plain hgd fun K hK => ?_
  unfold Oper.wp execOp
  simp only [ho, resolve, invoke, builtin, Sem.run_bind, Sem.run_pure, Result.andThen_ok, List.map_toArray, List.map_cons, List.map_nil, hs, hx, hrun]
  exact hK _ _ hh
end
theorem rkey_none (a : Int) (A : Option Addr) (n c : Nat) (A2 : Option Addr) (n2 c2 : Nat) (w : World) (h : sizeN a = 0) :
    Calls Try.prog 12 #[.int .i64 a, .slice A n c, .slice A2 n2 c2] w (TwoRet w [] 11) := by
  have SZ := Lib.hid (fun w => (rsize_any a w).mono fun e w' h2 => (show e = .returned (.int .i64 0) ∧ w = w' by rw [h] at h2; exact h2))
  clear h
  go_enter Try.func12, Try.ntmps12
  go_wp2_with (first
    | (go_at_call 14; (with_reducible refine (SZ.out _).mono ?_); rintro e w' ⟨rfl, rfl⟩))
  go_ret2
  exact ⟨none, 0, 0, rfl, key_nil _, Below.refl _ _⟩
theorem rkey_wrong (a : Int) (A : Option Addr) (n c : Nat) (A2 : Option Addr) (n2 c2 : Nat) (w : World) (s : Nat) (hs : sizeN a = s) (h : 0 < s) (hn : n ≤ 9223372036854775807) (hw : n = 0 ∨ 80 < n) :
    Calls Try.prog 12 #[.int .i64 a, .slice A n c, .slice A2 n2 c2] w (TwoRet w [] 1) := by
  have SZ := Lib.hid (fun w => (rsize_any a w).mono fun e w' h2 => (show e = .returned (.int .i64 s) ∧ w = w' by rw [hs] at h2; exact h2))
  have hz : (s : Int) ≠ 0 := by omega
  clear hs
  rcases hw with rfl | h80
  · go_enter Try.func12, Try.ntmps12
    go_wp2_with (first
      | (go_at_call 14; (with_reducible refine (SZ.out _).mono ?_); rintro e w' ⟨rfl, rfl⟩))
    go_ret2
    exact ⟨none, 0, 0, rfl, key_nil _, Below.refl _ _⟩
  · have d2 : (80 : Int) < (n : Int) := by omega
    have d3 : ¬ (n : Int) < 1 := by omega
    have d4 : decide ((n : Int) < 1) = false := decide_eq_false d3
    have d5 : decide ((80 : Int) < (n : Int)) = true := decide_eq_true d2
    go_enter Try.func12, Try.ntmps12
    go_wp2_with (first
      | (go_at_call 14; (with_reducible refine (SZ.out _).mono ?_); rintro e w' ⟨rfl, rfl⟩))
    go_ret2
    exact ⟨none, 0, 0, rfl, key_nil _, Below.refl _ _⟩
theorem tcp_cells : Lib.strCells { data := #[84, 67, 80, 45, 65, 79] } = [84, 67, 80, 45, 65, 79].map (Value.int .u8) := rfl
theorem ahead_split (ctx : List Int) (b : Int) : (([1] ++ [84, 67, 80, 45, 65, 79]) ++ ctx) ++ [0, b] = inpL ctx b := by simp [inpL, aheadL]
theorem own_key {w : World} {base : Nat} {A : Option Addr} {n c : Nat} {T : List Int} (O : Own .u8 5 w base (.slice A n c) T) (hn : T.length = n) (h1 : n ≤ c) (h2 : c ≤ maxLen) (hy : ∀ x ∈ T, Byte x) : Key w A n c T := by
  obtain ⟨A', c', e, _, _, N⟩ := O.form
  obtain ⟨rfl, rfl, rfl⟩ : A = A' ∧ n = T.length ∧ c = c' := by simpa using e
  exact ⟨N, hy, h1, h2⟩
theorem inp_byte {ctx : List Int} (h : ∀ x ∈ ctx, Byte x) {b : Int} (hb : Byte b) : ∀ x ∈ inpL ctx b, Byte x := by
  have h0 : ∀ x ∈ aheadL, Byte x := by unfold Byte; decide
  intro x hx
  rcases List.mem_append.1 hx with h1 | h1
  · exact h0 x h1
  · rcases List.mem_append.1 h1 with h2 | h2
    · exact h x h2
    · rcases List.mem_cons.1 h2 with rfl | h3
      · unfold Byte; decide
      · rw [List.mem_singleton.1 h3]; exact hb
theorem two_byte {ctx : List Int} (h : ∀ x ∈ ctx, Byte x) : ∀ x ∈ ([1] ++ [84, 67, 80, 45, 65, 79]) ++ ctx, Byte x := by
  have h0 : ∀ x ∈ aheadL, Byte x := by unfold Byte; decide
  intro x hx
  rcases List.mem_append.1 hx with h1 | h1
  · exact h0 x h1
  · exact h x h1
theorem inp_len (ctx : List Int) (b : Int) : (inpL ctx b).length = 9 + ctx.length := by simp [inpL, aheadL]; omega
set_option maxRecDepth 100000 in
set_option maxHeartbeats 1000000 in
theorem rkey_sha (A : Option Addr) (n c : Nat) (m : List Int) (A2 : Option Addr) (n2 c2 : Nat) (ctx : List Int) (w : World) (hm : Key w A n c m) (hc : Key w A2 n2 c2 ctx) (h1 : 1 ≤ n) (h2 : n ≤ 80) (hn2 : n2 ≤ 300) :
    Calls Try.prog 12 #[.int .i64 1, .slice A n c, .slice A2 n2 c2] w (TwoRet w (shaK m ctx) 0) := by
  have SZ := Lib.hid (fun w => (rsize_any 1 w).mono fun e w' h2 => (show e = .returned (.int .i64 20) ∧ w = w' from h2))
  have d3 : ¬ (n : Int) < 1 := by omega
  have d4 : decide ((n : Int) < 1) = false := decide_eq_false d3
  have d2 : ¬ (80 : Int) < (n : Int) := by omega
  have d5 : decide ((80 : Int) < (n : Int)) = false := decide_eq_false d2
  obtain ⟨i0, hi0, hz0, hz1, hz2⟩ := info_parts byte_inf
  have T1 := Lib.hid hi0; have T2 := Lib.hid hz0; have T3 := Lib.hid hz1; have T4 := Lib.hid hz2
  obtain ⟨Z, hZ⟩ : ∃ Z, Z = ((hmM.nz 20).map (Value.int .u8)).toArray := ⟨_, rfl⟩
  have hzv := Go.Proofs.Ythbgjjfhgbkbdaa.hmC.z20
  rw [← hZ] at hzv
  obtain ⟨X, hX⟩ : ∃ X, X = ((shaK m ctx).map (Value.int .u8)).toArray := ⟨_, rfl⟩
  have UX := Lib.hid (show (Try.prog.info? 54).map (·.size) = some X.size by rw [z20_info, hX]; simp [shaK_len])
  have ZX := Lib.hid (show Z.size = X.size by rw [hZ, hX]; simp [hmM.nz, shaK_len])
  have OX := Lib.hid (show X.all (·.oneCell') = true by rw [hX]; exact shaC.nums_one _)
  have O0 := Own.lit (k := .u8) (base := w.heap.size) w 5 1 (Nat.le_refl _)
  have B0 := alloc_below w (.cells #[.int .u8 1] 5)
  have es := alloc_size w (.cells #[.int .u8 1] 5)
  have hcl : ctx.length = n2 := hc.nums.len
  have NC := Lib.hid (fun (w1 : World) (B : Below w.heap.size w w1) => hc.nums.below B)
  have PT := Lib.hid (fun (w3 : World) (A3 : Option Addr) (c3 : Nat) (h3 : Key w3 A3 (7 + n2) c3 (([1] ++ [84, 67, 80, 45, 65, 79]) ++ ctx)) => rput_key (P := some ⟨w3.heap.size, 0, none⟩) (m := 1) (c2 := 1) (ns := [160]) (w := w3.alloc (.cells #[.int .u64 160] 53)) 2 2 (9 + n2) (inpL ctx 160) rfl (by decide) (h3.below (alloc_below _ _)) (lit64 w3 [160] 53) (by omega) (by decide) (by rw [putL_2 160 (by decide) (by decide), ahead_split]) (by rw [inp_len, hcl]))
  have OF := Lib.hid (fun (w4 : World) (A4 : Option Addr) (c4 : Nat) (B : Below w.heap.size w w4) (h4 : Key w4 A4 (9 + n2) c4 (inpL ctx 160)) => (hmC.mac_any A n c A4 (9 + n2) c4 m (inpL ctx 160) w4 (hm.below B).nums h4.nums hm.byte h4.byte (by omega) (by omega)).mono fun e w'' h => (show e = .returned (.agg X) ∧ Below w4.heap.size w4 w'' from ⟨by rw [hX]; exact h.1, h.2⟩))
  have TB := Lib.hid (two_byte hc.byte)
  have HX := Lib.hid hX
  have HB0 := Lib.hid B0
  have HO0 := Lib.hid O0
  have HES := Lib.hid es
  have LC := Lib.hid (show (([1] ++ [84, 67, 80, 45, 65, 79] ++ ctx : List Int)).length = 7 + n2 by simp [hcl]; omega)
  clear hZ hX hm hc B0 O0 es hi0 hz0 hz1 hz2 hcl
  go_enter Try.func12, Try.ntmps12
  go_upto_region 7 with (first
    | (go_at_call 14; (with_reducible refine (SZ.out _).mono ?_); rintro e w' ⟨rfl, rfl⟩)
    | (at_builtin; (refine wpList_appStr _ rfl (.tmp 23) (.const (.string { data := #[84, 67, 80, 45, 65, 79] })) _ _ rfl 5 i0 (.int .u8 0) Try.underlying22 Try.underlying9 T1.out T2.out T3.out T4.out w.heap.size _ [1] rfl HO0.out _ 6 [84, 67, 80, 45, 65, 79] rfl tcp_cells rfl (by decide) (by decide) (by rw [HES.out]; omega) 7 rfl ?_)
       intro A1 c1 w1 g1 g1' O1 B1
       have BB1 := Lib.hid (HB0.out.trans (B1.mono (Nat.le_refl _))))
    | (at_builtin; (refine wpList_appT _ rfl (.tmp 25) (.tmp 26) _ rfl 5 i0 _ 1 Try.underlying22 T1.out T2.out T3.out T4.out rfl w.heap.size _ _ rfl O1 w.heap.size A2 n2 c2 ctx rfl (NC.out _ BB1.out) (by show 7 + n2 ≤ _; simp only [maxLen]; omega) (by show (7 + n2) * 1 ≤ _; omega) BB1.out.size (7 + n2) rfl ?_)
       intro A3 c3 w3 g3 g3' O3 B3
       have BB3 := Lib.hid (BB1.out.trans B3)
       have K3 := Lib.hid (own_key O3 LC.out g3 g3' TB.out)))
  have PU := Lib.hid (PT.out _ _ _ K3.out)
  clear O1 B1 O3 B3
  go_upto_region 10 with (first
    | (go_at_call 14; (with_reducible refine (SZ.out _).mono ?_); rintro e w' ⟨rfl, rfl⟩)
    | (go_at_call 24; (with_reducible refine PU.out.mono ?_); rintro e w4 ⟨A4, c4, rfl, O4, K4, B4⟩
       have BB4 := Lib.hid (BB3.out.trans (((alloc_below w3 (.cells #[.int .u64 160] 53)).trans (B4.mono (alloc_below w3 (.cells #[.int .u64 160] 53)).size)).mono BB3.out.size))
       have OG := Lib.hid (OF.out w4 A4 c4 BB4.out K4))
    | (go_at_call 25; (with_reducible refine OG.out.mono ?_); rintro e w5 ⟨rfl, B5⟩)
    | (refine wpList_store_row rfl 54 (.tmp 9) (.tmp 39) rfl w5.heap.size X rfl rfl _ _ (heap_alloc_new _ _) UX.out ZX.out OX.out ?_))
  rw [World.setRow_alloc_new]
  have R1 : Key (w5.alloc (.cells X 54)) (some ⟨w5.heap.size, 0, none⟩) 20 20 (shaK m ctx) := cells_nums (by rw [HX.out]; exact heap_alloc_new _ _) (shaK_len _ _) (sha_byte20 _ _) (by decide)
  have BL : Below w.heap.size w (w5.alloc (.cells X 54)) := ((BB4.out.trans (B5.mono BB4.out.size))).alloc ((BB4.out.trans (B5.mono BB4.out.size))).size _
  have HR1 := Lib.hid R1
  have HBL := Lib.hid BL
  clear R1 BL B5 OG BB4 O4 K4 B4 hzv
  generalize w5.alloc (.cells X 54) = w6 at *
  generalize w5.heap.size = g at *
  go_wp2_with (at_builtin; (refine wpList_appT _ rfl (.const (.slice none 0 0)) (.tmp 40) _ rfl 5 i0 _ 1 Try.underlying22 T1.out T2.out T3.out T4.out rfl w6.heap.size _ [] rfl (Own.nil _ _) w6.heap.size _ 20 20 _ rfl HR1.out.nums (by decide) (by decide) (Nat.le_refl _) 20 rfl ?_)
               intro A7 c7 w7 g7 g7' O7 B7)
  go_ret2
  exact ⟨_, _, _, rfl, own_key O7 (shaK_len _ _) g7 g7' HR1.out.byte, HBL.out.trans (B7.mono HBL.out.size)⟩
end Go.Proofs.Ythbgjjfhgbkbdaa.kdC

/-
  Traffic keys: what the document's Key does, by AES; and in all.
-/
namespace Go.Proofs.Ythbgjjfhgbkbdaa.kdC
open Go.ChangeShapes Go.WideShapes Go.ChangeAt Go.RowKit
open Go.Proofs.Ythbgjjfhgbkbdaa.memC Go.Proofs.Ythbgjjfhgbkbdaa.genC Go.Proofs.Ythbgjjfhgbkbdaa.aesM Go.Proofs.Ythbgjjfhgbkbdaa.aesC Go.Proofs.Ythbgjjfhgbkbdaa.butC Go.Proofs.Ythbgjjfhgbkbdaa.freeC Go.Proofs.Ythbgjjfhgbkbdaa.partsC
set_option linter.unusedVariables false
set_option maxRecDepth 100000 in
set_option maxHeartbeats 1000000 in
theorem rkey_aes (A : Option Addr) (n c : Nat) (m : List Int) (A2 : Option Addr) (n2 c2 : Nat) (ctx : List Int) (w : World) (hm : Key w A n c m) (hc : Key w A2 n2 c2 ctx) (h1 : 1 ≤ n) (h2 : n ≤ 80) (hn2 : n2 ≤ 300) :
    Calls Try.prog 12 #[.int .i64 2, .slice A n c, .slice A2 n2 c2] w (TwoRet w (aesK m ctx) 0) := by
  have SZ := Lib.hid (fun w => (rsize_any 2 w).mono fun e w' h2 => (show e = .returned (.int .i64 16) ∧ w = w' from h2))
  have d3 : ¬ (n : Int) < 1 := by omega
  have d4 : decide ((n : Int) < 1) = false := decide_eq_false d3
  have d2 : ¬ (80 : Int) < (n : Int) := by omega
  have d5 : decide ((80 : Int) < (n : Int)) = false := decide_eq_false d2
  obtain ⟨i0, hi0, hz0, hz1, hz2⟩ := info_parts byte_inf
  have T1 := Lib.hid hi0; have T2 := Lib.hid hz0; have T3 := Lib.hid hz1; have T4 := Lib.hid hz2
  obtain ⟨Z, hZ⟩ : ∃ Z, Z = vec (zs 16) := ⟨_, rfl⟩
  have hzv := zero16
  rw [← hZ] at hzv
  have hzb := zero16_built
  rw [← hZ] at hzb
  have HZB := Lib.hid hzb
  obtain ⟨S, hS⟩ : ∃ S, S = vec (sixL m) := ⟨_, rfl⟩
  obtain ⟨K, hK⟩ : ∃ K, K = vec (fitL m) := ⟨_, rfl⟩
  have US := Lib.hid (show (Try.prog.info? 32).map (·.size) = some S.size by rw [hS]; exact vec_info (sixL_len _))
  have ZS := Lib.hid (show Z.size = S.size by rw [hZ, hS, vec_size, vec_size, sixL_len, zs_len])
  have OS := Lib.hid (show S.all (·.oneCell') = true by rw [hS]; exact vec_one _)
  have UK := Lib.hid (show (Try.prog.info? 32).map (·.size) = some K.size by rw [hK]; exact vec_info (fitL_len _))
  have SK := Lib.hid (show S.size = K.size by rw [hS, hK, vec_size, vec_size, sixL_len, fitL_len])
  have OK := Lib.hid (show K.all (·.oneCell') = true by rw [hK]; exact vec_one _)
  obtain ⟨X, hX⟩ : ∃ X, X = vec (macL (fitL m) (nats (inpL ctx 128))) := ⟨_, rfl⟩
  have UX := Lib.hid (show (Try.prog.info? 32).map (·.size) = some X.size by rw [hX]; exact vec_info (macL_len _ _))
  have ZX := Lib.hid (show Z.size = X.size by rw [hZ, hX, vec_size, vec_size, macL_len, zs_len])
  have OX := Lib.hid (show X.all (·.oneCell') = true by rw [hX]; exact vec_one _)
  have XK := Lib.hid (show X = ((aesK m ctx).map (Value.int .u8)).toArray by rw [hX]; exact (ints_vec _).symm)
  have BY1 := Lib.hid (aesK_byte hm.byte ctx)
  have ST := Lib.hid (fun (w1 : World) (B : Below w.heap.size w w1) => (show Calls Try.prog 26 #[.slice A n c] w1 (Ret w1 (.agg S)) by rw [hS]; exact six_any A n c m w1 (hm.below B) (by omega)))
  have RT := Lib.hid (fun (h16 : n ≠ 16) (w1 : World) (B : Below w.heap.size w w1) => (show Calls Try.prog 27 #[.agg Z, .slice A n c] w1 (Ret w1 (.agg K)) by
    have hf : fitL m = macL (zs 16) (nats m) := by unfold fitL; rw [if_neg (by rw [hm.nums.len]; exact h16)]
    rw [hZ, hK, hf]; exact rof_any A n c m (zs 16) w1 (hm.below B).nums hm.byte (by omega) (zs_len 16) (zs_by 16)))
  have SE := Lib.hid (fun (h16 : n = 16) => (show S = K by rw [hS, hK, sixL_16 (by rw [hm.nums.len]; exact h16)]; unfold fitL; rw [if_pos (by rw [hm.nums.len]; exact h16)]))
  have O0 := Own.lit (k := .u8) (base := w.heap.size) w 5 1 (Nat.le_refl _)
  have B0 := alloc_below w (.cells #[.int .u8 1] 5)
  have es := alloc_size w (.cells #[.int .u8 1] 5)
  have hcl : ctx.length = n2 := hc.nums.len
  have NC := Lib.hid (fun (w1 : World) (B : Below w.heap.size w w1) => hc.nums.below B)
  have PT := Lib.hid (fun (w3 : World) (A3 : Option Addr) (c3 : Nat) (h3 : Key w3 A3 (7 + n2) c3 (([1] ++ [84, 67, 80, 45, 65, 79]) ++ ctx)) => rput_key (P := some ⟨w3.heap.size, 0, none⟩) (m := 1) (c2 := 1) (ns := [128]) (w := w3.alloc (.cells #[.int .u64 128] 53)) 2 2 (9 + n2) (inpL ctx 128) rfl (by decide) (h3.below (alloc_below _ _)) (lit64 w3 [128] 53) (by omega) (by decide) (by rw [putL_2 128 (by decide) (by decide), ahead_split]) (by rw [inp_len, hcl]))
  have OF := Lib.hid (fun (w4 : World) (A4 : Option Addr) (c4 : Nat) (h4 : Key w4 A4 (9 + n2) c4 (inpL ctx 128)) => (show Calls Try.prog 27 #[.agg K, .slice A4 (9 + n2) c4] w4 (Ret w4 (.agg (vec (macL (fitL m) (nats (inpL ctx 128)))))) by rw [hK]; exact rof_any A4 (9 + n2) c4 (inpL ctx 128) (fitL m) w4 h4.nums h4.byte (by omega) (fitL_len m) (fitL_by hm.byte)).mono fun e w'' h => (show e = .returned (.agg X) ∧ Below w4.heap.size w4 w'' from ⟨by rw [hX]; exact h.1, h.2⟩))
  have TB := Lib.hid (two_byte hc.byte)
  have HX := Lib.hid hX
  have HB0 := Lib.hid B0
  have HO0 := Lib.hid O0
  have HES := Lib.hid es
  have LC := Lib.hid (show (([1] ++ [84, 67, 80, 45, 65, 79] ++ ctx : List Int)).length = 7 + n2 by simp [hcl]; omega)
  clear hZ hX hm hc B0 O0 es hi0 hz0 hz1 hz2 hcl
  go_enter Try.func12, Try.ntmps12
  go_upto_region 7 with (first
    | (go_at_call 14; (with_reducible refine (SZ.out _).mono ?_); rintro e w' ⟨rfl, rfl⟩)
    | (at_builtin; (refine wpList_appStr _ rfl (.tmp 23) (.const (.string { data := #[84, 67, 80, 45, 65, 79] })) _ _ rfl 5 i0 (.int .u8 0) Try.underlying22 Try.underlying9 T1.out T2.out T3.out T4.out w.heap.size _ [1] rfl HO0.out _ 6 [84, 67, 80, 45, 65, 79] rfl tcp_cells rfl (by decide) (by decide) (by rw [HES.out]; omega) 7 rfl ?_)
       intro A1 c1 w1 g1 g1' O1 B1
       have BB1 := Lib.hid (HB0.out.trans (B1.mono (Nat.le_refl _))))
    | (at_builtin; (refine wpList_appT _ rfl (.tmp 25) (.tmp 26) _ rfl 5 i0 _ 1 Try.underlying22 T1.out T2.out T3.out T4.out rfl w.heap.size _ _ rfl O1 w.heap.size A2 n2 c2 ctx rfl (NC.out _ BB1.out) (by show 7 + n2 ≤ _; simp only [maxLen]; omega) (by show (7 + n2) * 1 ≤ _; omega) BB1.out.size (7 + n2) rfl ?_)
       intro A3 c3 w3 g3 g3' O3 B3
       have BB3 := Lib.hid (BB1.out.trans B3)
       have K3 := Lib.hid (own_key O3 LC.out g3 g3' TB.out)))
  have PU := Lib.hid (PT.out _ _ _ K3.out)
  clear O1 B1 O3 B3
  clear hS hK hzb
  go_upto_region 12 with (first
    | (go_at_call 14; (with_reducible refine (SZ.out _).mono ?_); rintro e w' ⟨rfl, rfl⟩)
    | (go_at_call 24; (with_reducible refine PU.out.mono ?_); rintro e w4 ⟨A4, c4, rfl, O4, K4, B4⟩
       have BB4 := Lib.hid (BB3.out.trans (((alloc_below w3 (.cells #[.int .u64 128] 53)).trans (B4.mono (alloc_below w3 (.cells #[.int .u64 128] 53)).size)).mono BB3.out.size)))
    | (go_at_call 26; (with_reducible refine (ST.out _ BB4.out).mono ?_); rintro e w5 ⟨rfl, B5⟩)
    | (refine wpList_store_row rfl 32 (.tmp 10) (.tmp 43) rfl w5.heap.size S rfl rfl _ _ (heap_alloc_new _ _) US.out ZS.out OS.out ?_))
  rw [World.setRow_alloc_new]
  have BB6 := Lib.hid ((BB4.out.trans (B5.mono BB4.out.size)).alloc (BB4.out.trans (B5.mono BB4.out.size)).size (.cells S 32))
  have K6 := Lib.hid (K4.below (B5.alloc B5.size (.cells S 32)))
  have K40 := Lib.hid K4
  have B46 := Lib.hid (B5.alloc B5.size (.cells S 32))
  have L46 := Lib.hid B5.size
  have RS := Lib.hid (heap_alloc_new w5 (.cells S 32))
  have LT := Lib.hid (show w.heap.size ≤ w5.heap.size from (BB4.out.trans (B5.mono BB4.out.size)).size)
  have L6 := Lib.hid (alloc_size w5 (.cells S 32))
  clear K4 O4 B4 B5 PU
  generalize w5.alloc (.cells S 32) = w6 at *
  generalize w5.heap.size = g at *
  by_cases h16 : n = 16
  · subst h16
    have HS := Lib.hid (SE.out rfl)
    have RS2 := Lib.hid (HS.out ▸ RS.out : w6.heap[g]? = some (.cells K 32 (0, 0)))
    clear RT SE RS
    go_upto_region 15 with (first
      | (refine wpList_load_row rfl 32 (.tmp 10) rfl g rfl _ _ _ _ RS2.out Try.underlying32 rfl UK.out ?_)
      | (go_at_call 27; (with_reducible refine (OF.out w6 A4 c4 K6.out).mono ?_); rintro e w7 ⟨rfl, B7⟩)
      | (refine wpList_store_row rfl 32 (.tmp 11) (.tmp 52) rfl w7.heap.size X rfl rfl _ _ (heap_alloc_new _ _) UX.out ZX.out OX.out ?_))
    rw [World.setRow_alloc_new]
    have R1 : Key (w7.alloc (.cells X 32)) (some ⟨w7.heap.size, 0, none⟩) 16 16 (aesK m ctx) := cells_nums (by rw [XK.out]; exact heap_alloc_new _ _) (aesK_len _ _) BY1.out (by decide)
    have BL : Below w.heap.size w (w7.alloc (.cells X 32)) := ((BB6.out.trans (B7.mono BB6.out.size))).alloc ((BB6.out.trans (B7.mono BB6.out.size))).size _
    have HR1 := Lib.hid R1
    have HBL := Lib.hid BL
    clear R1 BL B7 hzv
    generalize w7.alloc (.cells X 32) = wf at *
    generalize w7.heap.size = gf at *
    go_wp2_with (at_builtin; (refine wpList_appT _ rfl (.const (.slice none 0 0)) (.tmp 53) _ rfl 5 i0 _ 1 Try.underlying22 T1.out T2.out T3.out T4.out rfl wf.heap.size _ [] rfl (Own.nil _ _) wf.heap.size _ 16 16 _ rfl HR1.out.nums (by decide) (by decide) (Nat.le_refl _) 16 rfl ?_)
                 intro Az cz wz gz gz' Oz Bz)
    go_ret2
    exact ⟨_, _, _, rfl, own_key Oz (aesK_len _ _) gz gz' HR1.out.byte, HBL.out.trans (Bz.mono HBL.out.size)⟩
  · have RU := Lib.hid (RT.out h16 w6 BB6.out)
    have h16z : ((n : Int) == 16) = false := by simp; omega
    have h16y : (n : Int) ≠ 16 := by omega
    clear RT SE
    go_upto_region 14 with (first
      | (refine wpList_zero rfl 32 rfl _ HZB.out ?_)
      | (go_at_call 27; (with_reducible refine RU.out.mono ?_); rintro e w7 ⟨rfl, B7⟩
         have RS2 := Lib.hid ((B7.block _ (by rw [L6.out]; omega)).trans RS.out))
      | (refine wpList_store_row rfl 32 (.tmp 10) (.tmp 49) rfl g _ rfl rfl _ _ RS2.out UK.out SK.out OK.out ?_))
    have BB7 := Lib.hid (below_setRow (BB6.out.trans (B7.mono BB6.out.size)) LT.out K)
    have RS3 := Lib.hid (setRow_heap w7 g _ K _ _ RS2.out)
    have K8 := Lib.hid (K40.out.below (below_setRow (B46.out.trans (B7.mono B46.out.size)) L46.out K))
    clear B7 RS RS2
    generalize w7.setRow g K = w8 at *
    go_upto_region 15 with (first
      | (refine wpList_load_row rfl 32 (.tmp 10) rfl g rfl _ _ _ _ RS3.out Try.underlying32 rfl UK.out ?_)
      | (go_at_call 27; (with_reducible refine (OF.out w8 A4 c4 K8.out).mono ?_); rintro e w9 ⟨rfl, B9⟩)
      | (refine wpList_store_row rfl 32 (.tmp 11) (.tmp 52) rfl w9.heap.size X rfl rfl _ _ (heap_alloc_new _ _) UX.out ZX.out OX.out ?_))
    rw [World.setRow_alloc_new]
    have R1 : Key (w9.alloc (.cells X 32)) (some ⟨w9.heap.size, 0, none⟩) 16 16 (aesK m ctx) := cells_nums (by rw [XK.out]; exact heap_alloc_new _ _) (aesK_len _ _) BY1.out (by decide)
    have BL : Below w.heap.size w (w9.alloc (.cells X 32)) := ((BB7.out.trans (B9.mono BB7.out.size))).alloc ((BB7.out.trans (B9.mono BB7.out.size))).size _
    have HR1 := Lib.hid R1
    have HBL := Lib.hid BL
    clear R1 BL B9 hzv
    generalize w9.alloc (.cells X 32) = wf at *
    generalize w9.heap.size = gf at *
    go_wp2_with (at_builtin; (refine wpList_appT _ rfl (.const (.slice none 0 0)) (.tmp 53) _ rfl 5 i0 _ 1 Try.underlying22 T1.out T2.out T3.out T4.out rfl wf.heap.size _ [] rfl (Own.nil _ _) wf.heap.size _ 16 16 _ rfl HR1.out.nums (by decide) (by decide) (Nat.le_refl _) 16 rfl ?_)
                 intro Az cz wz gz gz' Oz Bz)
    go_ret2
    exact ⟨_, _, _, rfl, own_key Oz (aesK_len _ _) gz gz' HR1.out.byte, HBL.out.trans (Bz.mono HBL.out.size)⟩
theorem rkey_any (a : Int) (A : Option Addr) (n c : Nat) (m : List Int) (A2 : Option Addr) (n2 c2 : Nat) (ctx : List Int) (w : World) (hm : Key w A n c m) (hc : Key w A2 n2 c2 ctx) (hn2 : n2 ≤ 300) :
    Calls Try.prog 12 #[.int .i64 a, .slice A n c, .slice A2 n2 c2] w (TwoRet w (keyL a m ctx) (keyE a m)) := by
  have hl := hm.nums.len
  have hx := hm.cap
  have hx2 := hm.max
  unfold keyL keyE
  by_cases h0 : sizeN a = 0
  · rw [if_pos (.inl h0), if_pos h0]
    exact rkey_none a A n c A2 n2 c2 w h0
  · rw [if_neg h0]
    by_cases hw : n = 0 ∨ 80 < n
    · rw [if_pos (by rw [hl]; exact .inr hw), if_pos (by rw [hl]; exact hw)]
      exact rkey_wrong a A n c A2 n2 c2 w _ rfl (by omega) (by omega) hw
    · rw [if_neg (c := sizeN a = 0 ∨ m.length = 0 ∨ 80 < m.length) (by rw [hl]; exact fun h => h.elim h0 hw), if_neg (c := m.length = 0 ∨ 80 < m.length) (by rw [hl]; exact hw)]
      by_cases h1 : a = 1
      · subst h1
        rw [if_pos rfl]
        exact rkey_sha A n c m A2 n2 c2 ctx w hm hc (by omega) (by omega) hn2
      · rw [if_neg h1]
        have h2 : a = 2 := by
          unfold sizeN at h0
          rw [if_neg h1] at h0
          by_cases h2 : a = 2
          · exact h2
          · rw [if_neg h2] at h0; exact absurd rfl h0
        subst h2
        exact rkey_aes A n c m A2 n2 c2 ctx w hm hc (by omega) (by omega) hn2
end Go.Proofs.Ythbgjjfhgbkbdaa.kdC

/-
  Traffic keys: what MAC of the code, and of the document, does.
-/
namespace Go.Proofs.Ythbgjjfhgbkbdaa.kdC
open Go.ChangeShapes Go.WideShapes Go.ChangeAt Go.RowKit
open Go.Proofs.Ythbgjjfhgbkbdaa.memC Go.Proofs.Ythbgjjfhgbkbdaa.genC Go.Proofs.Ythbgjjfhgbkbdaa.aesM Go.Proofs.Ythbgjjfhgbkbdaa.aesC Go.Proofs.Ythbgjjfhgbkbdaa.butC Go.Proofs.Ythbgjjfhgbkbdaa.freeC Go.Proofs.Ythbgjjfhgbkbdaa.partsC
set_option linter.unusedVariables false
theorem results_cell_tmp {P : Program} {fn : Func} {p q : Tmp} {ty : TypeId} (h : fn.results = #[.cell p ty, .tmp q]) (tmps : Array Value) (w : World) (g : Nat) (t : TypeId) (cs : Array Value) (fr : Nat × Nat) (d : TypeDesc) (v : Value)
    (hp : tmps.getD p undef = .pointer (some ⟨g, 0, none⟩)) (hg : w.heap[g]? = some (.cells cs t fr)) (hu : P.underlying ty = some d) (hd : (match d with | .struct _ | .array _ _ => true | _ => false) = true) (hi : (P.info? ty).map (·.size) = some cs.size)
    (hp2 : tmps.getD q undef = v) :
    (results fn tmps).run P w = .ok (.tuple #[.agg cs, v]) w := by
  have hp' : tmps[p]?.getD undef = .pointer (some ⟨g, 0, none⟩) := by simpa using hp
  have hp2' : tmps[q]?.getD undef = v := by simpa using hp2
  simp [results, h, hp', hp2', asAddr, run_loadVar_row w g t ty cs fr d hg hu hd hi]
def vI (xs : List Int) : Array Value := (xs.map (Value.int .u8)).toArray
def zI : List Int := ints (zs 12)
theorem zI_vec : vI zI = vec (zs 12) := ints_vec _
theorem zero12_built : Try.prog.built 44 [] = some (vec (zs 12)) := by kernel_rfl
/-- the MAC by a traffic key -/
def shaM (k msg : List Int) : List Int := hmM.shortL k msg
def aesS (k msg : List Int) : List Int := ints (shoL (nats k) (nats msg))
def macX (a : Int) (k msg : List Int) : List Int := if sizeN a = 0 ∨ k.length ≠ sizeN a then zI else if a = 1 then shaM k msg else aesS k msg
def macE (a : Int) (k : List Int) : Int := if sizeN a = 0 then 11 else if k.length ≠ sizeN a then 1 else 0
theorem shaM_len (k m : List Int) : (shaM k m).length = 12 := hmC.short_len k m
theorem aesS_len (k m : List Int) : (aesS k m).length = 12 := by unfold aesS; rw [ints_len]; exact shoL_len _ _
theorem macX_len (a : Int) (k m : List Int) : (macX a k m).length = 12 := by
  unfold macX
  split
  · unfold zI; rw [ints_len, zs_len]
  · split
    · exact shaM_len _ _
    · exact aesS_len _ _
theorem vI_size (xs : List Int) : (vI xs).size = xs.length := by unfold vI; simp
theorem vI_one (xs : List Int) : (vI xs).all (·.oneCell') = true := shaC.nums_one _
/-- a MAC, and an error -/
def MRet (w : World) (xs : List Int) (er : Int) (e : Ending) (w' : World) : Prop := e = .returned (.tuple #[.agg (vI xs), .int .i64 er]) ∧ Below w.heap.size w w'
set_option maxRecDepth 100000 in
set_option maxHeartbeats 1000000 in
theorem mac_none (a : Int) (A : Option Addr) (n c : Nat) (A2 : Option Addr) (n2 c2 : Nat) (w : World) (h : sizeN a = 0) :
    Calls Try.prog 17 #[.int .i64 a, .slice A n c, .slice A2 n2 c2] w (MRet w zI 11) := by
  have SZ := Lib.hid (fun w => (size_any a w).mono fun e w' h2 => (show e = .returned (.int .i64 0) ∧ w = w' by rw [h] at h2; exact h2))
  clear h
  obtain ⟨Z, hZ⟩ : ∃ Z, Z = vec (zs 12) := ⟨_, rfl⟩
  have hzv := zero12
  rw [← hZ] at hzv
  obtain ⟨V, hV⟩ : ∃ V, V = vI (zI) := ⟨_, rfl⟩
  have UV := Lib.hid (show (Try.prog.info? 44).map (·.size) = some V.size by rw [b12_info, hV, vI_size]; exact congrArg some ((by unfold zI; rw [ints_len, zs_len] : zI.length = 12)).symm)
  have ZV := Lib.hid (show Z.size = V.size by rw [hZ, hV, vec_size, vI_size, zs_len]; exact ((by unfold zI; rw [ints_len, zs_len] : zI.length = 12)).symm)
  have OV := Lib.hid (show V.all (·.oneCell') = true by rw [hV]; exact vI_one _)
  obtain ⟨W, hW⟩ : ∃ W, W = w.alloc (.cells Z 44) := ⟨_, rfl⟩
  have BW := alloc_below w (.cells Z 44)
  have RW : (w.alloc (.cells Z 44)).heap[w.heap.size]? = some (.cells Z 44 (0, 0)) := heap_alloc_new _ _
  rw [← hW] at BW RW
  have HBW := Lib.hid BW
  have HRW := Lib.hid RW
  have hlt := Lib.hid (show w.heap.size < W.heap.size by rw [hW, alloc_size]; omega)
  have HV := Lib.hid hV
  unfold MRet
  have HZB := Lib.hid (show Try.prog.built 44 [] = some V by rw [hV, zI_vec]; exact zero12_built)
  clear hZ hV BW RW
  go_enter Try.func17, Try.ntmps17
  go_upto_region 1 with fail
  rw [← hW]
  clear hW hzv
  go_wp2_with (first
    | (go_at_call 13; (with_reducible refine (SZ.out _).mono ?_); rintro e w' ⟨rfl, rfl⟩)
    | (refine wpList_zero rfl 44 rfl _ HZB.out ?_)
    | (refine wpList_store_row rfl 44 (.tmp 6) (.tmp 12) rfl w.heap.size _ rfl rfl _ _ HRW.out UV.out ZV.out OV.out ?_))
  refine bodyPost_ret (v := .tuple #[.agg V, .int .i64 11]) (results_cell_tmp Try.results17 _ _ w.heap.size _ _ _ _ _ (by rfl) (setRow_heap _ _ _ _ _ _ HRW.out) Try.underlying44 rfl UV.out (by rfl)) rfl ⟨by rw [HV.out], ?_⟩
  exact below_setRow (HBW.out) (Nat.le_refl _) _
set_option maxRecDepth 100000 in
set_option maxHeartbeats 1000000 in
theorem mac_wrong (a : Int) (A : Option Addr) (n c : Nat) (A2 : Option Addr) (n2 c2 : Nat) (w : World) (s : Nat) (hs : sizeN a = s) (h : 0 < s) (hn : n ≤ 9223372036854775807) (hw : n ≠ s) :
    Calls Try.prog 17 #[.int .i64 a, .slice A n c, .slice A2 n2 c2] w (MRet w zI 1) := by
  have SZ := Lib.hid (fun w => (size_any a w).mono fun e w' h2 => (show e = .returned (.int .i64 s) ∧ w = w' by rw [hs] at h2; exact h2))
  have hz : (s : Int) ≠ 0 := by omega
  have hz2 : ((s : Int) == 0) = false := by simp; omega
  have hne : (n : Int) ≠ (s : Int) := by omega
  have hne2 : ((n : Int) == (s : Int)) = false := by simp; omega
  clear hs
  obtain ⟨Z, hZ⟩ : ∃ Z, Z = vec (zs 12) := ⟨_, rfl⟩
  have hzv := zero12
  rw [← hZ] at hzv
  obtain ⟨V, hV⟩ : ∃ V, V = vI (zI) := ⟨_, rfl⟩
  have UV := Lib.hid (show (Try.prog.info? 44).map (·.size) = some V.size by rw [b12_info, hV, vI_size]; exact congrArg some ((by unfold zI; rw [ints_len, zs_len] : zI.length = 12)).symm)
  have ZV := Lib.hid (show Z.size = V.size by rw [hZ, hV, vec_size, vI_size, zs_len]; exact ((by unfold zI; rw [ints_len, zs_len] : zI.length = 12)).symm)
  have OV := Lib.hid (show V.all (·.oneCell') = true by rw [hV]; exact vI_one _)
  obtain ⟨W, hW⟩ : ∃ W, W = w.alloc (.cells Z 44) := ⟨_, rfl⟩
  have BW := alloc_below w (.cells Z 44)
  have RW : (w.alloc (.cells Z 44)).heap[w.heap.size]? = some (.cells Z 44 (0, 0)) := heap_alloc_new _ _
  rw [← hW] at BW RW
  have HBW := Lib.hid BW
  have HRW := Lib.hid RW
  have hlt := Lib.hid (show w.heap.size < W.heap.size by rw [hW, alloc_size]; omega)
  have HV := Lib.hid hV
  unfold MRet
  have HZB := Lib.hid (show Try.prog.built 44 [] = some V by rw [hV, zI_vec]; exact zero12_built)
  clear hZ hV BW RW
  go_enter Try.func17, Try.ntmps17
  go_upto_region 1 with fail
  rw [← hW]
  clear hW hzv
  go_wp2_with (first
    | (go_at_call 13; (with_reducible refine (SZ.out _).mono ?_); rintro e w' ⟨rfl, rfl⟩)
    | (refine wpList_zero rfl 44 rfl _ HZB.out ?_)
    | (refine wpList_store_row rfl 44 (.tmp 6) (.tmp 19) rfl w.heap.size _ rfl rfl _ _ HRW.out UV.out ZV.out OV.out ?_))
  refine bodyPost_ret (v := .tuple #[.agg V, .int .i64 1]) (results_cell_tmp Try.results17 _ _ w.heap.size _ _ _ _ _ (by rfl) (setRow_heap _ _ _ _ _ _ HRW.out) Try.underlying44 rfl UV.out (by rfl)) rfl ⟨by rw [HV.out], ?_⟩
  exact below_setRow (HBW.out) (Nat.le_refl _) _
set_option maxRecDepth 100000 in
set_option maxHeartbeats 1000000 in
theorem mac_sha (A : Option Addr) (c : Nat) (k : List Int) (P : Option Addr) (np c2 : Nat) (ps : List Part) (msg : List Int) (w : World) (hk : Key w A 20 c k) (hp : Parts w w.heap.size P ps) (hl : ps.length = np) (hnp : np ≤ 100) (hcat : catL ps = msg) :
    Calls Try.prog 17 #[.int .i64 1, .slice A 20 c, .slice P np c2] w (MRet w (shaM k msg) 0) := by
  have SZ := Lib.hid (fun w => (size_any 1 w).mono fun e w' h2 => (show e = .returned (.int .i64 20) ∧ w = w' from h2))
  obtain ⟨Z, hZ⟩ : ∃ Z, Z = vec (zs 12) := ⟨_, rfl⟩
  have hzv := zero12
  rw [← hZ] at hzv
  obtain ⟨V, hV⟩ : ∃ V, V = vI (shaM k msg) := ⟨_, rfl⟩
  have UV := Lib.hid (show (Try.prog.info? 44).map (·.size) = some V.size by rw [b12_info, hV, vI_size]; exact congrArg some (shaM_len k msg).symm)
  have ZV := Lib.hid (show Z.size = V.size by rw [hZ, hV, vec_size, vI_size, zs_len]; exact (shaM_len k msg).symm)
  have OV := Lib.hid (show V.all (·.oneCell') = true by rw [hV]; exact vI_one _)
  obtain ⟨W, hW⟩ : ∃ W, W = w.alloc (.cells Z 44) := ⟨_, rfl⟩
  have BW := alloc_below w (.cells Z 44)
  have RW : (w.alloc (.cells Z 44)).heap[w.heap.size]? = some (.cells Z 44 (0, 0)) := heap_alloc_new _ _
  rw [← hW] at BW RW
  have HBW := Lib.hid BW
  have HRW := Lib.hid RW
  have hlt := Lib.hid (show w.heap.size < W.heap.size by rw [hW, alloc_size]; omega)
  have HV := Lib.hid hV
  unfold MRet
  have SH := Lib.hid ((hmC.cshort_any A 20 c k P np c2 ps W (hk.below BW).nums hk.byte (by decide) hk.cap hk.max (hp.below BW BW.size) hl hnp).mono fun e w'' h => (show e = .returned (.agg V) ∧ Below W.heap.size W w'' from ⟨by rw [h.1, hV, hcat]; rfl, h.2⟩))
  clear hZ hV BW RW hk hp hl hnp hcat
  go_enter Try.func17, Try.ntmps17
  go_upto_region 1 with fail
  rw [← hW]
  clear hW hzv
  go_wp2_with (first
    | (go_at_call 13; (with_reducible refine (SZ.out _).mono ?_); rintro e w' ⟨rfl, rfl⟩)
    | (go_at_call 30; (with_reducible refine SH.out.mono ?_); rintro e w2 ⟨rfl, B2⟩
       have R2 := Lib.hid ((B2.block _ hlt.out).trans HRW.out)
       have BB2 := Lib.hid (HBW.out.trans (B2.mono HBW.out.size)))
    | (refine wpList_store_row rfl 44 (.tmp 6) (.tmp 25) rfl w.heap.size _ rfl rfl _ _ R2.out UV.out ZV.out OV.out ?_))
  refine bodyPost_ret (v := .tuple #[.agg V, .int .i64 0]) (results_cell_tmp Try.results17 _ _ w.heap.size _ _ _ _ _ (by rfl) (setRow_heap _ _ _ _ _ _ R2.out) Try.underlying44 rfl UV.out (by rfl)) rfl ⟨by rw [HV.out], ?_⟩
  exact below_setRow (BB2.out) (Nat.le_refl _) _
set_option maxRecDepth 100000 in
set_option maxHeartbeats 1000000 in
theorem mac_aes (A : Option Addr) (c : Nat) (k : List Int) (P : Option Addr) (np c2 : Nat) (ps : List Part) (msg : List Int) (w : World) (hk : Key w A 16 c k) (hp : Parts w w.heap.size P ps) (hl : ps.length = np) (hnp : np ≤ 100) (hcat : catL ps = msg) :
    Calls Try.prog 17 #[.int .i64 2, .slice A 16 c, .slice P np c2] w (MRet w (aesS k msg) 0) := by
  have SZ := Lib.hid (fun w => (size_any 2 w).mono fun e w' h2 => (show e = .returned (.int .i64 16) ∧ w = w' from h2))
  obtain ⟨Z, hZ⟩ : ∃ Z, Z = vec (zs 12) := ⟨_, rfl⟩
  have hzv := zero12
  rw [← hZ] at hzv
  obtain ⟨V, hV⟩ : ∃ V, V = vI (aesS k msg) := ⟨_, rfl⟩
  have UV := Lib.hid (show (Try.prog.info? 44).map (·.size) = some V.size by rw [b12_info, hV, vI_size]; exact congrArg some (aesS_len k msg).symm)
  have ZV := Lib.hid (show Z.size = V.size by rw [hZ, hV, vec_size, vI_size, zs_len]; exact (aesS_len k msg).symm)
  have OV := Lib.hid (show V.all (·.oneCell') = true by rw [hV]; exact vI_one _)
  obtain ⟨W, hW⟩ : ∃ W, W = w.alloc (.cells Z 44) := ⟨_, rfl⟩
  have BW := alloc_below w (.cells Z 44)
  have RW : (w.alloc (.cells Z 44)).heap[w.heap.size]? = some (.cells Z 44 (0, 0)) := heap_alloc_new _ _
  rw [← hW] at BW RW
  have HBW := Lib.hid BW
  have HRW := Lib.hid RW
  have hlt := Lib.hid (show w.heap.size < W.heap.size by rw [hW, alloc_size]; omega)
  have HV := Lib.hid hV
  unfold MRet
  obtain ⟨K, hK⟩ : ∃ K, K = vec (nats k) := ⟨_, rfl⟩
  have hkl : (nats k).length = 16 := by rw [nats_len]; exact hk.nums.len
  have hky := nats_by hk.byte
  obtain ⟨b, o, rfl⟩ := key_addr hk (by decide)
  obtain ⟨L, hL⟩ : ∃ L, L = k.map (Value.int .u8) := ⟨_, rfl⟩
  have hLK : L.toArray = K := by rw [hL, hK]; exact vec_nats hk.byte
  have CL := Lib.hid (show ∀ j v, L[j]? = some v → W.cell? ⟨b, o + j, none⟩ = some v from fun j v hv => key_cells (hk.below BW) j v (by rw [← hL]; exact hv))
  have UL := Lib.hid (show (Try.prog.info? 32).map (·.size) = some L.length by rw [b16_info, hL, List.length_map, hk.nums.len])
  have hat := run_arrayAt (P := Try.prog) (t := 32) Try.underlying32 (some ⟨b, o, none⟩) 16 c (by decide) W
  have SH := Lib.hid ((cshort_any P np c2 ps (nats k) W (hp.below BW BW.size) hl hnp hkl hky).mono fun e w'' h => (show e = .returned (.agg V) ∧ Below W.heap.size W w'' from ⟨by rw [h.1, hV, hcat]; unfold aesS vI; rw [ints_vec], h.2⟩))
  rw [← hK, ← hLK] at SH
  clear hZ hV BW RW hk hp hl hnp hcat hK hkl hky hL hLK
  go_enter Try.func17, Try.ntmps17
  go_upto_region 1 with fail
  rw [← hW]
  clear hW hzv
  go_wp2_with (first
    | (go_at_call 13; (with_reducible refine (SZ.out _).mono ?_); rintro e w' ⟨rfl, rfl⟩)
    | (refine Go.Proofs.Ythbgjjfhgbkbdaa.partC.wpList_load_part rfl 32 (.tmp 27) rfl b o rfl L _ CL.out Try.underlying32 rfl UL.out ?_)
    | (go_at_call 31; (with_reducible refine SH.out.mono ?_); rintro e w2 ⟨rfl, B2⟩
       have R2 := Lib.hid ((B2.block _ hlt.out).trans HRW.out)
       have BB2 := Lib.hid (HBW.out.trans (B2.mono HBW.out.size)))
    | (refine wpList_store_row rfl 44 (.tmp 6) (.tmp 30) rfl w.heap.size _ rfl rfl _ _ R2.out UV.out ZV.out OV.out ?_))
  refine bodyPost_ret (v := .tuple #[.agg V, .int .i64 0]) (results_cell_tmp Try.results17 _ _ w.heap.size _ _ _ _ _ (by rfl) (setRow_heap _ _ _ _ _ _ R2.out) Try.underlying44 rfl UV.out (by rfl)) rfl ⟨by rw [HV.out], ?_⟩
  exact below_setRow (BB2.out) (Nat.le_refl _) _
theorem mac_any8 (a : Int) (A : Option Addr) (n c : Nat) (k : List Int) (P : Option Addr) (np c2 : Nat) (ps : List Part) (msg : List Int) (w : World) (hk : Key w A n c k) (hp : Parts w w.heap.size P ps) (hl : ps.length = np) (hnp : np ≤ 100) (hcat : catL ps = msg) :
    Calls Try.prog 17 #[.int .i64 a, .slice A n c, .slice P np c2] w (MRet w (macX a k msg) (macE a k)) := by
  have hkl := hk.nums.len
  have hx := hk.cap
  have hx2 := hk.max
  unfold macX macE
  by_cases h0 : sizeN a = 0
  · rw [if_pos (.inl h0), if_pos h0]
    exact mac_none a A n c P np c2 w h0
  · rw [if_neg h0]
    by_cases hw : n ≠ sizeN a
    · rw [if_pos (c := sizeN a = 0 ∨ k.length ≠ sizeN a) (by rw [hkl]; exact .inr hw), if_pos (c := k.length ≠ sizeN a) (by rw [hkl]; exact hw)]
      exact mac_wrong a A n c P np c2 w _ rfl (by omega) (by omega) hw
    · rw [if_neg (c := sizeN a = 0 ∨ k.length ≠ sizeN a) (by rw [hkl]; exact fun h => h.elim h0 hw), if_neg (c := k.length ≠ sizeN a) (by rw [hkl]; exact hw)]
      have hw' : n = sizeN a := Decidable.not_not.1 hw
      by_cases h1 : a = 1
      · subst h1
        rw [if_pos rfl]
        have : n = 20 := hw'
        subst this
        exact mac_sha A c k P np c2 ps msg w hk hp hl hnp hcat
      · rw [if_neg h1]
        have h2 : a = 2 := by
          unfold sizeN at h0
          rw [if_neg h1] at h0
          by_cases h2 : a = 2
          · exact h2
          · rw [if_neg h2] at h0; exact absurd rfl h0
        subst h2
        have : n = 16 := hw'
        subst this
        exact mac_aes A c k P np c2 ps msg w hk hp hl hnp hcat
set_option maxRecDepth 100000 in
set_option maxHeartbeats 1000000 in
theorem rmac_none (a : Int) (A : Option Addr) (n c : Nat) (A2 : Option Addr) (n2 c2 : Nat) (w : World) (h : sizeN a = 0) :
    Calls Try.prog 18 #[.int .i64 a, .slice A n c, .slice A2 n2 c2] w (MRet w zI 11) := by
  have SZ := Lib.hid (fun w => (rsize_any a w).mono fun e w' h2 => (show e = .returned (.int .i64 0) ∧ w = w' by rw [h] at h2; exact h2))
  clear h
  obtain ⟨Z, hZ⟩ : ∃ Z, Z = vec (zs 12) := ⟨_, rfl⟩
  have hzv := zero12
  rw [← hZ] at hzv
  obtain ⟨V, hV⟩ : ∃ V, V = vI (zI) := ⟨_, rfl⟩
  have UV := Lib.hid (show (Try.prog.info? 44).map (·.size) = some V.size by rw [b12_info, hV, vI_size]; exact congrArg some ((by unfold zI; rw [ints_len, zs_len] : zI.length = 12)).symm)
  have ZV := Lib.hid (show Z.size = V.size by rw [hZ, hV, vec_size, vI_size, zs_len]; exact ((by unfold zI; rw [ints_len, zs_len] : zI.length = 12)).symm)
  have OV := Lib.hid (show V.all (·.oneCell') = true by rw [hV]; exact vI_one _)
  obtain ⟨W, hW⟩ : ∃ W, W = w.alloc (.cells Z 44) := ⟨_, rfl⟩
  have BW := alloc_below w (.cells Z 44)
  have RW : (w.alloc (.cells Z 44)).heap[w.heap.size]? = some (.cells Z 44 (0, 0)) := heap_alloc_new _ _
  rw [← hW] at BW RW
  have HBW := Lib.hid BW
  have HRW := Lib.hid RW
  have hlt := Lib.hid (show w.heap.size < W.heap.size by rw [hW, alloc_size]; omega)
  have HV := Lib.hid hV
  unfold MRet
  have HZB := Lib.hid (show Try.prog.built 44 [] = some V by rw [hV, zI_vec]; exact zero12_built)
  clear hZ hV BW RW
  go_enter Try.func18, Try.ntmps18
  go_upto_region 1 with fail
  rw [← hW]
  clear hW hzv
  go_wp2_with (first
    | (go_at_call 14; (with_reducible refine (SZ.out _).mono ?_); rintro e w' ⟨rfl, rfl⟩)
    | (refine wpList_zero rfl 44 rfl _ HZB.out ?_)
    | (refine wpList_store_row rfl 44 (.tmp 6) (.tmp 11) rfl w.heap.size _ rfl rfl _ _ HRW.out UV.out ZV.out OV.out ?_))
  refine bodyPost_ret (v := .tuple #[.agg V, .int .i64 11]) (results_cell_tmp Try.results18 _ _ w.heap.size _ _ _ _ _ (by rfl) (setRow_heap _ _ _ _ _ _ HRW.out) Try.underlying44 rfl UV.out (by rfl)) rfl ⟨by rw [HV.out], ?_⟩
  exact below_setRow (HBW.out) (Nat.le_refl _) _
set_option maxRecDepth 100000 in
set_option maxHeartbeats 1000000 in
theorem rmac_wrong (a : Int) (A : Option Addr) (n c : Nat) (A2 : Option Addr) (n2 c2 : Nat) (w : World) (s : Nat) (hs : sizeN a = s) (h : 0 < s) (hn : n ≤ 9223372036854775807) (hw : n ≠ s) :
    Calls Try.prog 18 #[.int .i64 a, .slice A n c, .slice A2 n2 c2] w (MRet w zI 1) := by
  have SZ := Lib.hid (fun w => (rsize_any a w).mono fun e w' h2 => (show e = .returned (.int .i64 s) ∧ w = w' by rw [hs] at h2; exact h2))
  have hz : (s : Int) ≠ 0 := by omega
  have hz2 : ((s : Int) == 0) = false := by simp; omega
  have hne : (n : Int) ≠ (s : Int) := by omega
  have hne2 : ((n : Int) == (s : Int)) = false := by simp; omega
  clear hs
  obtain ⟨Z, hZ⟩ : ∃ Z, Z = vec (zs 12) := ⟨_, rfl⟩
  have hzv := zero12
  rw [← hZ] at hzv
  obtain ⟨V, hV⟩ : ∃ V, V = vI (zI) := ⟨_, rfl⟩
  have UV := Lib.hid (show (Try.prog.info? 44).map (·.size) = some V.size by rw [b12_info, hV, vI_size]; exact congrArg some ((by unfold zI; rw [ints_len, zs_len] : zI.length = 12)).symm)
  have ZV := Lib.hid (show Z.size = V.size by rw [hZ, hV, vec_size, vI_size, zs_len]; exact ((by unfold zI; rw [ints_len, zs_len] : zI.length = 12)).symm)
  have OV := Lib.hid (show V.all (·.oneCell') = true by rw [hV]; exact vI_one _)
  obtain ⟨W, hW⟩ : ∃ W, W = w.alloc (.cells Z 44) := ⟨_, rfl⟩
  have BW := alloc_below w (.cells Z 44)
  have RW : (w.alloc (.cells Z 44)).heap[w.heap.size]? = some (.cells Z 44 (0, 0)) := heap_alloc_new _ _
  rw [← hW] at BW RW
  have HBW := Lib.hid BW
  have HRW := Lib.hid RW
  have hlt := Lib.hid (show w.heap.size < W.heap.size by rw [hW, alloc_size]; omega)
  have HV := Lib.hid hV
  unfold MRet
  have HZB := Lib.hid (show Try.prog.built 44 [] = some V by rw [hV, zI_vec]; exact zero12_built)
  clear hZ hV BW RW
  go_enter Try.func18, Try.ntmps18
  go_upto_region 1 with fail
  rw [← hW]
  clear hW hzv
  go_wp2_with (first
    | (go_at_call 14; (with_reducible refine (SZ.out _).mono ?_); rintro e w' ⟨rfl, rfl⟩)
    | (refine wpList_zero rfl 44 rfl _ HZB.out ?_)
    | (refine wpList_store_row rfl 44 (.tmp 6) (.tmp 17) rfl w.heap.size _ rfl rfl _ _ HRW.out UV.out ZV.out OV.out ?_))
  refine bodyPost_ret (v := .tuple #[.agg V, .int .i64 1]) (results_cell_tmp Try.results18 _ _ w.heap.size _ _ _ _ _ (by rfl) (setRow_heap _ _ _ _ _ _ HRW.out) Try.underlying44 rfl UV.out (by rfl)) rfl ⟨by rw [HV.out], ?_⟩
  exact below_setRow (HBW.out) (Nat.le_refl _) _
set_option maxRecDepth 100000 in
set_option maxHeartbeats 1000000 in
theorem rmac_sha (A : Option Addr) (c : Nat) (k : List Int) (A2 : Option Addr) (n2 c2 : Nat) (msg : List Int) (w : World) (hk : Key w A 20 c k) (hm : Key w A2 n2 c2 msg) (hn2 : n2 ≤ 10000) :
    Calls Try.prog 18 #[.int .i64 1, .slice A 20 c, .slice A2 n2 c2] w (MRet w (shaM k msg) 0) := by
  have SZ := Lib.hid (fun w => (rsize_any 1 w).mono fun e w' h2 => (show e = .returned (.int .i64 20) ∧ w = w' from h2))
  obtain ⟨Z, hZ⟩ : ∃ Z, Z = vec (zs 12) := ⟨_, rfl⟩
  have hzv := zero12
  rw [← hZ] at hzv
  obtain ⟨V, hV⟩ : ∃ V, V = vI (shaM k msg) := ⟨_, rfl⟩
  have UV := Lib.hid (show (Try.prog.info? 44).map (·.size) = some V.size by rw [b12_info, hV, vI_size]; exact congrArg some (shaM_len k msg).symm)
  have ZV := Lib.hid (show Z.size = V.size by rw [hZ, hV, vec_size, vI_size, zs_len]; exact (shaM_len k msg).symm)
  have OV := Lib.hid (show V.all (·.oneCell') = true by rw [hV]; exact vI_one _)
  obtain ⟨W, hW⟩ : ∃ W, W = w.alloc (.cells Z 44) := ⟨_, rfl⟩
  have BW := alloc_below w (.cells Z 44)
  have RW : (w.alloc (.cells Z 44)).heap[w.heap.size]? = some (.cells Z 44 (0, 0)) := heap_alloc_new _ _
  rw [← hW] at BW RW
  have HBW := Lib.hid BW
  have HRW := Lib.hid RW
  have hlt := Lib.hid (show w.heap.size < W.heap.size by rw [hW, alloc_size]; omega)
  have HV := Lib.hid hV
  unfold MRet
  have SH := Lib.hid ((hmC.short_any A 20 c A2 n2 c2 k msg W (hk.below BW).nums (hm.below BW).nums hk.byte hm.byte (by decide) hn2).mono fun e w'' h => (show e = .returned (.agg V) ∧ Below W.heap.size W w'' from ⟨by rw [h.1, hV]; rfl, h.2⟩))
  clear hZ hV BW RW hk hm hn2
  go_enter Try.func18, Try.ntmps18
  go_upto_region 1 with fail
  rw [← hW]
  clear hW hzv
  go_wp2_with (first
    | (go_at_call 14; (with_reducible refine (SZ.out _).mono ?_); rintro e w' ⟨rfl, rfl⟩)
    | (go_at_call 32; (with_reducible refine SH.out.mono ?_); rintro e w2 ⟨rfl, B2⟩
       have R2 := Lib.hid ((B2.block _ hlt.out).trans HRW.out)
       have BB2 := Lib.hid (HBW.out.trans (B2.mono HBW.out.size)))
    | (refine wpList_store_row rfl 44 (.tmp 6) (.tmp 22) rfl w.heap.size _ rfl rfl _ _ R2.out UV.out ZV.out OV.out ?_))
  refine bodyPost_ret (v := .tuple #[.agg V, .int .i64 0]) (results_cell_tmp Try.results18 _ _ w.heap.size _ _ _ _ _ (by rfl) (setRow_heap _ _ _ _ _ _ R2.out) Try.underlying44 rfl UV.out (by rfl)) rfl ⟨by rw [HV.out], ?_⟩
  exact below_setRow (BB2.out) (Nat.le_refl _) _
set_option maxRecDepth 100000 in
set_option maxHeartbeats 1000000 in
theorem rmac_aes (A : Option Addr) (c : Nat) (k : List Int) (A2 : Option Addr) (n2 c2 : Nat) (msg : List Int) (w : World) (hk : Key w A 16 c k) (hm : Key w A2 n2 c2 msg) (hn2 : n2 ≤ 10000) :
    Calls Try.prog 18 #[.int .i64 2, .slice A 16 c, .slice A2 n2 c2] w (MRet w (aesS k msg) 0) := by
  have SZ := Lib.hid (fun w => (rsize_any 2 w).mono fun e w' h2 => (show e = .returned (.int .i64 16) ∧ w = w' from h2))
  obtain ⟨Z, hZ⟩ : ∃ Z, Z = vec (zs 12) := ⟨_, rfl⟩
  have hzv := zero12
  rw [← hZ] at hzv
  obtain ⟨V, hV⟩ : ∃ V, V = vI (aesS k msg) := ⟨_, rfl⟩
  have UV := Lib.hid (show (Try.prog.info? 44).map (·.size) = some V.size by rw [b12_info, hV, vI_size]; exact congrArg some (aesS_len k msg).symm)
  have ZV := Lib.hid (show Z.size = V.size by rw [hZ, hV, vec_size, vI_size, zs_len]; exact (aesS_len k msg).symm)
  have OV := Lib.hid (show V.all (·.oneCell') = true by rw [hV]; exact vI_one _)
  obtain ⟨W, hW⟩ : ∃ W, W = w.alloc (.cells Z 44) := ⟨_, rfl⟩
  have BW := alloc_below w (.cells Z 44)
  have RW : (w.alloc (.cells Z 44)).heap[w.heap.size]? = some (.cells Z 44 (0, 0)) := heap_alloc_new _ _
  rw [← hW] at BW RW
  have HBW := Lib.hid BW
  have HRW := Lib.hid RW
  have hlt := Lib.hid (show w.heap.size < W.heap.size by rw [hW, alloc_size]; omega)
  have HV := Lib.hid hV
  unfold MRet
  obtain ⟨K, hK⟩ : ∃ K, K = vec (nats k) := ⟨_, rfl⟩
  have hkl : (nats k).length = 16 := by rw [nats_len]; exact hk.nums.len
  have hky := nats_by hk.byte
  have ST := Lib.hid (show Calls Try.prog 26 #[.slice A 16 c] W (Ret W (.agg K)) by rw [hK, ← sixL_16 hk.nums.len]; exact six_any A 16 c k W (hk.below BW) (by decide))
  have SH := Lib.hid (fun (w1 : World) (B : Below w.heap.size w w1) => (rshort_any A2 n2 c2 msg (nats k) w1 (hm.below B).nums hm.byte hn2 hkl hky).mono fun e w'' h => (show e = .returned (.agg V) ∧ Below w1.heap.size w1 w'' from ⟨by rw [h.1, hV]; unfold aesS vI; rw [ints_vec], h.2⟩))
  rw [← hK] at SH
  clear hZ hV BW RW hk hm hn2 hK hkl hky
  go_enter Try.func18, Try.ntmps18
  go_upto_region 1 with fail
  rw [← hW]
  clear hW hzv
  go_wp2_with (first
    | (go_at_call 14; (with_reducible refine (SZ.out _).mono ?_); rintro e w' ⟨rfl, rfl⟩)
    | (go_at_call 26; (with_reducible refine ST.out.mono ?_); rintro e w1 ⟨rfl, B1⟩
       have BB1 := Lib.hid (HBW.out.trans (B1.mono HBW.out.size))
       have R1 := Lib.hid ((B1.block _ hlt.out).trans HRW.out)
       have lt1 := Lib.hid (Nat.lt_of_lt_of_le hlt.out B1.size))
    | (go_at_call 33; (with_reducible refine (SH.out w1 BB1.out).mono ?_); rintro e w2 ⟨rfl, B2⟩
       have R2 := Lib.hid ((B2.block _ lt1.out).trans R1.out)
       have BB2 := Lib.hid (BB1.out.trans (B2.mono BB1.out.size)))
    | (refine wpList_store_row rfl 44 (.tmp 6) (.tmp 26) rfl w.heap.size _ rfl rfl _ _ R2.out UV.out ZV.out OV.out ?_))
  refine bodyPost_ret (v := .tuple #[.agg V, .int .i64 0]) (results_cell_tmp Try.results18 _ _ w.heap.size _ _ _ _ _ (by rfl) (setRow_heap _ _ _ _ _ _ R2.out) Try.underlying44 rfl UV.out (by rfl)) rfl ⟨by rw [HV.out], ?_⟩
  exact below_setRow (BB2.out) (Nat.le_refl _) _
theorem rmac_any8 (a : Int) (A : Option Addr) (n c : Nat) (k : List Int) (A2 : Option Addr) (n2 c2 : Nat) (msg : List Int) (w : World) (hk : Key w A n c k) (hm : Key w A2 n2 c2 msg) (hn2 : n2 ≤ 10000) :
    Calls Try.prog 18 #[.int .i64 a, .slice A n c, .slice A2 n2 c2] w (MRet w (macX a k msg) (macE a k)) := by
  have hkl := hk.nums.len
  have hx := hk.cap
  have hx2 := hk.max
  unfold macX macE
  by_cases h0 : sizeN a = 0
  · rw [if_pos (.inl h0), if_pos h0]
    exact rmac_none a A n c A2 n2 c2 w h0
  · rw [if_neg h0]
    by_cases hw : n ≠ sizeN a
    · rw [if_pos (c := sizeN a = 0 ∨ k.length ≠ sizeN a) (by rw [hkl]; exact .inr hw), if_pos (c := k.length ≠ sizeN a) (by rw [hkl]; exact hw)]
      exact rmac_wrong a A n c A2 n2 c2 w _ rfl (by omega) (by omega) hw
    · rw [if_neg (c := sizeN a = 0 ∨ k.length ≠ sizeN a) (by rw [hkl]; exact fun h => h.elim h0 hw), if_neg (c := k.length ≠ sizeN a) (by rw [hkl]; exact hw)]
      have hw' : n = sizeN a := Decidable.not_not.1 hw
      by_cases h1 : a = 1
      · subst h1
        rw [if_pos rfl]
        have : n = 20 := hw'
        subst this
        exact rmac_sha A c k A2 n2 c2 msg w hk hm hn2
      · rw [if_neg h1]
        have h2 : a = 2 := by
          unfold sizeN at h0
          rw [if_neg h1] at h0
          by_cases h2 : a = 2
          · exact h2
          · rw [if_neg h2] at h0; exact absurd rfl h0
        subst h2
        have : n = 16 := hw'
        subst this
        exact rmac_aes A c k A2 n2 c2 msg w hk hm hn2
end Go.Proofs.Ythbgjjfhgbkbdaa.kdC

/-
  '==' of two arrays of bytes, as it comes out.
-/
namespace Go.Proofs.Ythbgjjfhgbkbdaa.aesC
open Go.ChangeShapes Go.WideShapes Go.ChangeAt Go.RowKit
open Go.Proofs.Ythbgjjfhgbkbdaa.memC Go.Proofs.Ythbgjjfhgbkbdaa.genC Go.Proofs.Ythbgjjfhgbkbdaa.aesM Go.Proofs.Ythbgjjfhgbkbdaa.freeC
set_option linter.unusedVariables false
theorem run_each {P : Program} (w : World) (d : Nat) (e : TypeId) (K : IntKind) (xs ys : Array Value) (f g : Nat → Int) (he : P.underlying e = some (.int K)) :
    ∀ is : List Nat, (∀ j ∈ is, xs[j]? = some (.int K (f j)) ∧ ys[j]? = some (.int K (g j))) → (Op.eqItems (d + 1) e 1 xs ys is).run P w = .ok (is.all fun j => f j == g j) w
  | [], _ => by simp [Op.eqItems]
  | j :: is, h => by
    obtain ⟨hx, hy⟩ := h j (by simp)
    have hagg : (isAgg e).run P w = .ok false w := by
      unfold isAgg
      rw [Sem.run_bind, run_underlying he w]
      rfl
    have hp : (part e xs (j * 1)).run P w = .ok (.int K (f j)) w := by
      rw [Nat.mul_one]
      simp [part, Sem.run_bind, hagg, hx]
    have hp2 : (part e ys (j * 1)).run P w = .ok (.int K (g j)) w := by
      rw [Nat.mul_one]
      simp [part, Sem.run_bind, hagg, hy]
    have ih := run_each w d e K xs ys f g he is fun i hi => h i (by simp [hi])
    have hq := run_equalIn_int (P := P) w d e K K (f j) (g j) he
    by_cases hfg : f j = g j
    · have hb : (f j == g j) = true := beq_iff_eq.2 hfg
      simp only [Op.eqItems, Sem.run_bind, hp, hp2, Result.andThen_ok, hq, hb, Bool.not_true, Bool.false_eq_true, if_false, ih, List.all_cons, Bool.true_and]
    · have hb : (f j == g j) = false := beq_eq_false_iff_ne.2 hfg
      simp only [Op.eqItems, Sem.run_bind, hp, hp2, Result.andThen_ok, hq, hb, Bool.not_false, if_true, Sem.run_pure, List.all_cons, Bool.false_and]
set_option maxRecDepth 100000 in
theorem eq_dec {xs ys : List Nat} (hx : xs.length = 16) (hy : ys.length = 16) (w : World) : (Op.equalIn 10000 32 (.agg (vec xs)) (.agg (vec ys))).run Try.prog w = .ok (decide (xs = ys)) w := by
  obtain ⟨i0, hi0, hz0, hz1, hz2⟩ := info_parts byte_inf
  rw [show (10000 : Nat) = 9998 + 1 + 1 from rfl, run_equalIn_array w _ (vec xs) (vec ys) Try.underlying32 hi0, show Try.prog.cellsOf 5 = 1 by kernel_rfl,
    run_each w _ _ .u8 (vec xs) (vec ys) (fun j => ((xs.getD j 0 : Nat) : Int)) (fun j => ((ys.getD j 0 : Nat) : Int)) rfl _ fun j hj => ⟨vec_at (by rw [hx]; exact List.mem_range.1 hj), vec_at (by rw [hy]; exact List.mem_range.1 hj)⟩]
  congr 1
  by_cases h : xs = ys
  · subst h
    simp
  · rw [decide_eq_false h]
    refine Bool.eq_false_iff.2 fun h2 => h ?_
    apply List.ext_getElem?
    intro j
    by_cases hj : j < 16
    · have := List.all_eq_true.1 h2 j (List.mem_range.2 hj)
      have h3 : xs.getD j 0 = ys.getD j 0 := Int.ofNat_inj.1 (beq_iff_eq.1 this)
      rw [getD_eq (by rw [hx]; exact hj), getD_eq (by rw [hy]; exact hj), h3]
    · rw [List.getElem?_eq_none (by omega), List.getElem?_eq_none (by omega)]
end Go.Proofs.Ythbgjjfhgbkbdaa.aesC
