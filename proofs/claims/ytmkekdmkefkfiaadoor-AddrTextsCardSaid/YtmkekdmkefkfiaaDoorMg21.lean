/-
  4 texts of a proof, joined.
-/
import Derived.Test.YtmkekdmkefkfiaaDoorMg20
import Derived.Test.YtmkekdmkefkfiaaDoorMg19
import Derived.Test.YtmkekdmkefkfiaaDoorMg16

/-
  The walk of AddrMakes.
-/
namespace Go.Proofs.YtmkekdmkefkfiaaDoor.adC
open Go.ChangeShapes Go.WideShapes Go.ChangeAt Go.RowKit
open Go.Proofs.YtmkekdmkefkfiaaDoor.memC Go.Proofs.YtmkekdmkefkfiaaDoor.genC Go.Proofs.YtmkekdmkefkfiaaDoor.butC Go.Proofs.YtmkekdmkefkfiaaDoor.freeC Go.Proofs.YtmkekdmkefkfiaaDoor.txC
set_option linter.unusedVariables false
theorem eqa_self (s : Bool) {b : List Int} (h : b.length = 16) (w : World) : (Op.equalIn 10000 24 (.agg (adrV s b)) (.agg (adrV s b))).run Tryd.prog w = .ok true w := by
  have h1 := eqa s s b b h h w
  rw [decide_eq_true (⟨rfl, rfl⟩ : s = s ∧ b = b)] at h1
  exact h1
theorem ofL_four {b : List Int} (h : b.length = 16) : ofL (b.take 4) = some (false, fourB (b.getD 0 0) (b.getD 1 0) (b.getD 2 0) (b.getD 3 0)) := by
  have hl : (b.take 4).length = 4 := by rw [List.length_take, h]; rfl
  unfold ofL fourB
  rw [if_pos hl]
  congr 3
  match b, h with
  | x0 :: x1 :: x2 :: x3 :: r, _ => rfl
theorem ofL_len {bs : List Int} : (outO (ofL bs)).2.length = 16 := by
  unfold ofL
  split
  · rename_i h; show (bs ++ zs 12).length = 16; rw [List.length_append, h, zs_len]
  · split
    · rename_i h; exact h
    · exact zs_len 16
theorem bytRet_call {P : World → Prop} {f : FuncId} {args : Array Value} {w0 w : World} {bs : List Int} (hG : Gr w0 w) (h : Calls Tryd.prog f args w (BytRet w bs)) :
    Calls Tryd.prog f args w fun e w' => ∃ v, e = .returned v ∧ Gr w0 w' ∧ Below w.heap.size w w' ∧ ∃ A n c, v = .slice A n c ∧ Nums .u8 w' w'.heap.size A n bs :=
  h.mono fun e w' ⟨A, n, c, he, h1, h2, h3, O, B⟩ => ⟨_, he, hG.below B, B, A, n, c, rfl, by
    obtain ⟨A', cap, ev, _, _, N⟩ := O.form
    cases ev
    exact h1 ▸ N⟩
def mkV (g0 g1 g2 g3 : Nat) (TX TF CA TS : Array Value) (er : Int) (A : Option Addr) (n c : Nat) (x0 x1 x2 x3 : Int) (bs : List Int) (SB : ByteArray) (my : Bool) : Nat → Value → World → Prop
  | 0, v, _ => v = .agg TX
  | 1, v, _ => v = .agg TX
  | 2, v, _ => v = .bool true
  | 3, v, _ => v = .bool true
  | 4, v, _ => v = .int .i64 er
  | 5, v, _ => v = .int .i64 er
  | 6, v, _ => v = .bool true
  | 7, v, _ => v = .bool true
  | 8, v, _ => v = .bool true
  | 9, v, _ => v = .slice A n c
  | 10, v, _ => v = .agg TS
  | 11, v, _ => v = .slice A n c
  | 12, v, _ => v = .agg TS
  | 13, v, _ => v = .bool true
  | 14, v, _ => v = .bool true
  | 15, v, _ => v = .bool true
  | 16, v, _ => v = .pointer (some ⟨g0, 1, none⟩)
  | 17, v, _ => v = .pointer (some ⟨g0, 1, none⟩)
  | 18, v, _ => v = .int .u8 x0
  | 19, v, _ => v = .pointer (some ⟨g0, 1, none⟩)
  | 20, v, _ => v = .pointer (some ⟨g0, 1 + 1, none⟩)
  | 21, v, _ => v = .int .u8 x1
  | 22, v, _ => v = .pointer (some ⟨g0, 1, none⟩)
  | 23, v, _ => v = .pointer (some ⟨g0, 1 + 2, none⟩)
  | 24, v, _ => v = .int .u8 x2
  | 25, v, _ => v = .pointer (some ⟨g0, 1, none⟩)
  | 26, v, _ => v = .pointer (some ⟨g0, 1 + 3, none⟩)
  | 27, v, _ => v = .int .u8 x3
  | 28, v, _ => v = .agg TF
  | 29, v, _ => v = .agg TF
  | 30, v, _ => v = .bool true
  | 31, v, _ => v = .bool true
  | 32, v, _ => v = .bool true
  | 33, v, _ => v = .agg CA
  | 34, v, w => ∃ A n c, v = .slice A n c ∧ Nums .u8 w w.heap.size A n bs
  | 35, v, _ => v = .string SB
  | 36, v, _ => v = .agg CA
  | 37, v, w => ∃ A n c, v = .slice A n c ∧ Nums .u8 w w.heap.size A n bs
  | 38, v, _ => v = .string SB
  | 39, v, _ => v = .bool true
  | 40, v, _ => v = .bool true
  | 41, v, _ => v = .bool true
  | 42, v, _ => v = .agg CA
  | 43, v, _ => v = .bool my
  | 44, v, _ => v = .agg CA
  | 45, v, _ => v = .bool my
  | 46, v, _ => v = .bool true
  | 47, v, _ => v = .bool true
  | 48, v, _ => v = .bool true
  | 49, v, _ => v = .bool true
  | 50, v, _ => v = .bool true
  | 51, v, _ => v = .bool true
  | _, _, _ => True
theorem mkV.keep (g0 g1 g2 g3 : Nat) (TX TF CA TS : Array Value) (er : Int) (A : Option Addr) (n c : Nat) (x0 x1 x2 x3 : Int) (bs : List Int) (SB : ByteArray) (my : Bool) (i : Nat) (v : Value) (w w' : World) (hb : Below w.heap.size w w') (h : mkV g0 g1 g2 g3 TX TF CA TS er A n c x0 x1 x2 x3 bs SB my i v w) : mkV g0 g1 g2 g3 TX TF CA TS er A n c x0 x1 x2 x3 bs SB my i v w' := by
  by_cases e34 : i = 34
  · subst e34
    obtain ⟨A', n', c', h1, h2⟩ := h
    exact ⟨A', n', c', h1, (h2.below hb).more hb.size⟩
  by_cases e37 : i = 37
  · subst e37
    obtain ⟨A', n', c', h1, h2⟩ := h
    exact ⟨A', n', c', h1, (h2.below hb).more hb.size⟩
  unfold mkV at h ⊢
  split at h <;> first | exact h | exact absurd rfl (by assumption)
def mkT : List (Option Nat) := [none, none, none, none, none, none, some 51, none, none, none, none, none, none, none, none, none, none, none, none, none, none, none, none, none, none, none, none, none, none, none, none, none, none, none, none, none, none, none, some 0, some 1, some 2, some 3, some 4, some 5, some 6, some 7, some 8, some 9, some 10, some 11, some 12, some 13, some 14, some 15, some 16, some 17, some 18, some 19, some 20, some 21, some 22, some 23, some 24, some 25, some 26, some 27, some 28, some 29, some 30, some 31, some 32, some 33, some 34, some 35, some 36, some 37, some 38, some 39, some 40, some 41, some 42, some 43, some 44, some 45, some 46, some 47, some 48, some 49, some 50]
set_option maxRecDepth 100000 in
set_option maxHeartbeats 4000000 in
theorem makes_walk (s : Bool) (b : List Int) (A1 : Option Addr) (n1 c1 : Nat) (z1 : List Int) (A : Option Addr) (n c : Nat) (z : List Int) (w : World) (hg : Gb w) (hl : b.length = 16) (hy : ∀ x ∈ b, Byte x)
    (hb1 : Nums .u8 w w.heap.size A1 n1 z1) (hb2 : Nums .u16 w w.heap.size A n z) (hy2 : ∀ x ∈ z, W16 x) (hc1 : n1 ≤ c1) (hcm1 : c1 ≤ 9223372036854775807) (hc2 : n ≤ c) (hcm2 : c ≤ 9223372036854775807) :
    Calls Tryd.prog 3 #[.agg (adrV s b), .slice A1 n1 c1, .slice A n c] w (Ret w (.bool true)) := by
  have hzv := zeroAdr
  obtain ⟨W, hW⟩ : ∃ W, W = w.alloc (.cells (adrV s b) 24) := ⟨_, rfl⟩
  have R0_W := Lib.hid (show W.heap[w.heap.size]? = some (.cells (adrV s b) 24 (0, 0)) by rw [hW]; exact heap_alloc_new w _)
  have HB_W := Lib.hid (show Below w.heap.size w W by rw [hW]; exact alloc_below _ _)
  have HG_W := Lib.hid (hg.below HB_W.out)
  have UA := Lib.hid (adr_info s hl)
  have HA := Lib.hid (alive_any W HG_W.out)
  by_cases h1 : 1000 < n1
  · have q1 : (1000 : Int) < (n1 : Int) := by omega
    generalize adrV s b = CA at *
    clear hb1 hb2 hy2 hl hy hg
    go_enter Tryd.func3, Tryd.ntmps3
    go_upto_region 1 with fail
    rw [← hW]
    clear hW
    go_wp2_with (first
      | (go_at_call 7; (refine HA.out.mono ?_); rintro e w6 ⟨rfl, BB⟩
         have HB_w6 := Lib.hid (HB_W.out.trans (BB.mono HB_W.out.size))
         clear BB))
    go_ret
    exact ⟨rfl, HB_w6.out⟩
  have q1 : ¬ (1000 : Int) < (n1 : Int) := by omega
  by_cases h2 : 1000 < n
  · have q2 : (1000 : Int) < (n : Int) := by omega
    generalize adrV s b = CA at *
    clear hb1 hb2 hy2 hl hy hg
    go_enter Tryd.func3, Tryd.ntmps3
    go_upto_region 1 with fail
    rw [← hW]
    clear hW
    go_wp2_with (first
      | (go_at_call 7; (refine HA.out.mono ?_); rintro e w6 ⟨rfl, BB⟩
         have HB_w6 := Lib.hid (HB_W.out.trans (BB.mono HB_W.out.size))
         clear BB))
    go_ret
    exact ⟨rfl, HB_w6.out⟩
  have q2 : ¬ (1000 : Int) < (n : Int) := by omega
  have O1 := Lib.hid (fun w' (hw : Below w.heap.size w w') => (cof_any A1 n1 c1 z1 w' ((hb1.below hw).more hw.size)).mono fun e w'' h => h.two)
  have O2 := Lib.hid (fun w' (hw : Below w.heap.size w w') => (rof_any A1 n1 c1 z1 w' ((hb1.below hw).more hw.size)).mono fun e w'' h => h.two)
  have lx := ofL_len (bs := z1)
  have UX := Lib.hid (And.intro (adr_info (outO (ofL z1)).1 lx) (And.intro (z_size (outO (ofL z1)).1 lx) (adrV_one (outO (ofL z1)).1 (outO (ofL z1)).2)))
  have EQX := Lib.hid (fun w' => eqa_self (outO (ofL z1)).1 lx w')
  have lf := fourB_len (b.getD 0 0) (b.getD 1 0) (b.getD 2 0) (b.getD 3 0)
  have O3 := Lib.hid (fun w' (hr : w'.heap[w.heap.size]? = some (.cells (adrV s b) 24 (0, 0))) => (show Calls Tryd.prog 9 #[.slice (some ⟨w.heap.size, 1, none⟩) 4 16] w' fun e w'' => e = .returned (.tuple #[.agg (adrV false (fourB (b.getD 0 0) (b.getD 1 0) (b.getD 2 0) (b.getD 3 0))), .int .i64 0]) ∧ Below w'.heap.size w' w'' by
    have h := (rof_any (some ⟨w.heap.size, 1, none⟩) 4 16 (b.take 4) w' (adr_nums hl hr (by decide))).mono fun e w'' h => h.two
    rw [ofL_four hl] at h; exact h))
  have UF := Lib.hid (And.intro (adr_info false lf) (And.intro (z_size false lf) (adrV_one false (fourB (b.getD 0 0) (b.getD 1 0) (b.getD 2 0) (b.getD 3 0)))))
  have EQF := Lib.hid (fun w' => eqa_self false lf w')
  have F4 := Lib.hid (fun w' => cfour_any (b.getD 0 0) (b.getD 1 0) (b.getD 2 0) (b.getD 3 0) w')
  have ls := sixB_len z
  have EQS := Lib.hid (fun w' => eqa_self true ls w')
  have S1' := Lib.hid (fun w' (hw : Below w.heap.size w w') => csix_any A n c z w' ((hb2.below hw).more hw.size) hy2 (by omega) hc2 hcm2)
  have S2' := Lib.hid (fun w' (hw : Below w.heap.size w w') => six_make A n c z w' ((hb2.below hw).more hw.size) hy2 (by omega))
  have B1 := Lib.hid (fun w' => cbytes_any s b w' hl)
  have B2 := Lib.hid (fun w' => rbytes_any s b w' hl)
  have M1 := Lib.hid (fun w' => cmay_any s b w' hl)
  have M2 := Lib.hid (fun w' => rmay_any s b w' hl)
  have HC := Lib.hid (fun (w' : World) (hr : w'.heap[w.heap.size]? = some (.cells (adrV s b) 24 (0, 0))) (i : Nat) (hi : i < 16) => (show w'.cell? ⟨w.heap.size, 1 + i, none⟩ = some (.int .u8 (b.getD i 0)) by
    rw [cell_of_row w' w.heap.size (1 + i) _ _ (0, 0) hr]; exact adrV_at (by omega)))
  have HC0 := Lib.hid (fun w' hr => HC.out w' hr 0 (by decide))
  have HC1 := Lib.hid (fun w' hr => HC.out w' hr 1 (by decide))
  have HC2 := Lib.hid (fun w' hr => HC.out w' hr 2 (by decide))
  have HC3 := Lib.hid (fun w' hr => HC.out w' hr 3 (by decide))
  clear HC
  generalize mayL s b = my at *
  generalize hSB : strOfNums (adrL s b) = SB at *
  generalize hbs : adrL s b = bs at *
  generalize errO 1 (ofL z1) = er at *
  have O1' : Hid (∀ w' (hw : Below w.heap.size w w'), Calls Tryd.prog 8 #[.slice A1 n1 c1] w' fun e w'' => e = .returned (.tuple #[.agg (adrV (outO (ofL z1)).1 (outO (ofL z1)).2), .int .i64 er]) ∧ Below w'.heap.size w' w'') := Lib.hid O1.out
  have O2' : Hid (∀ w' (hw : Below w.heap.size w w'), Calls Tryd.prog 9 #[.slice A1 n1 c1] w' fun e w'' => e = .returned (.tuple #[.agg (adrV (outO (ofL z1)).1 (outO (ofL z1)).2), .int .i64 er]) ∧ Below w'.heap.size w' w'') := Lib.hid O2.out
  generalize adrV (outO (ofL z1)).1 (outO (ofL z1)).2 = TX at *
  generalize b.getD 0 0 = x0 at *
  generalize b.getD 1 0 = x1 at *
  generalize b.getD 2 0 = x2 at *
  generalize b.getD 3 0 = x3 at *
  generalize adrV false (fourB x0 x1 x2 x3) = TF at *
  generalize adrV true (sixB z) = TS at *
  generalize adrV s b = CA at *
  generalize zAdr = Z at *
  have SBE : Hid (strOfNums bs = SB) := Lib.hid hSB
  clear O1 O2 hb1 hb2 hy2 hl hy lx lf ls hg h1 h2 hSB hbs HA
  go_enter Tryd.func3, Tryd.ntmps3
  go_upto_region 1 with fail
  rw [← hW]
  clear hW
  go_upto_region 4 with (first
    | (go_at_call 8; (refine (O1'.out _ HB_W.out).mono ?_); rintro e v1 ⟨rfl, BB⟩
       have HB_v1 := Lib.hid (HB_W.out.trans (BB.mono HB_W.out.size))
       have R0_v1 := Lib.hid (show v1.heap[w.heap.size]? = some (.cells CA 24 (0, 0)) by rw [BB.block _ (lt_of_row R0_W.out)]; exact R0_W.out)
       have HN_v1 := Lib.hid (show (v1.alloc (.cells Z 24)).heap[v1.heap.size]? = some (.cells Z 24 (0, 0)) from heap_alloc_new _ _)
       have HG_v1 := Lib.hid (HG_W.out.below BB)
       clear BB)
    | (refine wpList_store_row rfl 24 (.tmp 7) (.tmp 25) rfl v1.heap.size TX rfl rfl _ _ HN_v1.out UX.out.1 UX.out.2.1 UX.out.2.2 ?_))
  rw [World.setRow_alloc_new]
  have HB_W1 := Lib.hid (show Below w.heap.size w (v1.alloc (.cells TX 24)) from HB_v1.out.trans ((alloc_below _ _).mono HB_v1.out.size))
  have R0_W1 := Lib.hid (show (v1.alloc (.cells TX 24)).heap[w.heap.size]? = some (.cells CA 24 (0, 0)) by rw [(alloc_below _ _).block _ (lt_of_row R0_v1.out)]; exact R0_v1.out)
  have RX_W1 := Lib.hid (show (v1.alloc (.cells TX 24)).heap[v1.heap.size]? = some (.cells TX 24 (0, 0)) from heap_alloc_new _ _)
  have HG_W1 := Lib.hid (HG_v1.out.below (alloc_below v1 (.cells TX 24)))
  clear HB_v1 HN_v1 R0_v1 HG_v1
  generalize v1.heap.size = g1 at *
  generalize v1.alloc (.cells TX 24) = W1 at *
  go_upto_region 5 with (first
    | (go_at_call 9; (refine (O2'.out _ HB_W1.out).mono ?_); rintro e v2 ⟨rfl, BB⟩
       have HB_v2 := Lib.hid (HB_W1.out.trans (BB.mono HB_W1.out.size))
       have R0_v2 := Lib.hid (show v2.heap[w.heap.size]? = some (.cells CA 24 (0, 0)) by rw [BB.block _ (lt_of_row R0_W1.out)]; exact R0_W1.out)
       have RX_v2 := Lib.hid (show v2.heap[g1]? = some (.cells TX 24 (0, 0)) by rw [BB.block _ (lt_of_row RX_W1.out)]; exact RX_W1.out)
       have HN_v2 := Lib.hid (show (v2.alloc (.cells Z 24)).heap[v2.heap.size]? = some (.cells Z 24 (0, 0)) from heap_alloc_new _ _)
       have HG_v2 := Lib.hid (HG_W1.out.below BB)
       clear BB)
    | (refine wpList_store_row rfl 24 (.tmp 9) (.tmp 30) rfl v2.heap.size TX rfl rfl _ _ HN_v2.out UX.out.1 UX.out.2.1 UX.out.2.2 ?_))
  rw [World.setRow_alloc_new]
  have HB_W2 := Lib.hid (show Below w.heap.size w (v2.alloc (.cells TX 24)) from HB_v2.out.trans ((alloc_below _ _).mono HB_v2.out.size))
  have R0_W2 := Lib.hid (show (v2.alloc (.cells TX 24)).heap[w.heap.size]? = some (.cells CA 24 (0, 0)) by rw [(alloc_below _ _).block _ (lt_of_row R0_v2.out)]; exact R0_v2.out)
  have RX_W2 := Lib.hid (show (v2.alloc (.cells TX 24)).heap[g1]? = some (.cells TX 24 (0, 0)) by rw [(alloc_below _ _).block _ (lt_of_row RX_v2.out)]; exact RX_v2.out)
  have RY_W2 := Lib.hid (show (v2.alloc (.cells TX 24)).heap[v2.heap.size]? = some (.cells TX 24 (0, 0)) from heap_alloc_new _ _)
  have HG_W2 := Lib.hid (HG_v2.out.below (alloc_below v2 (.cells TX 24)))
  clear HB_v2 HN_v2 R0_v2 RX_v2 HG_v2
  generalize v2.heap.size = g2 at *
  generalize v2.alloc (.cells TX 24) = W2 at *
  go_upto_region 6 with (first
    | (go_at_call 9; (refine (O3.out _ R0_W2.out).mono ?_); rintro e v3 ⟨rfl, BB⟩
       have HB_v3 := Lib.hid (HB_W2.out.trans (BB.mono HB_W2.out.size))
       have R0_v3 := Lib.hid (show v3.heap[w.heap.size]? = some (.cells CA 24 (0, 0)) by rw [BB.block _ (lt_of_row R0_W2.out)]; exact R0_W2.out)
       have RX_v3 := Lib.hid (show v3.heap[g1]? = some (.cells TX 24 (0, 0)) by rw [BB.block _ (lt_of_row RX_W2.out)]; exact RX_W2.out)
       have RY_v3 := Lib.hid (show v3.heap[g2]? = some (.cells TX 24 (0, 0)) by rw [BB.block _ (lt_of_row RY_W2.out)]; exact RY_W2.out)
       have HN_v3 := Lib.hid (show (v3.alloc (.cells Z 24)).heap[v3.heap.size]? = some (.cells Z 24 (0, 0)) from heap_alloc_new _ _)
       have HG_v3 := Lib.hid (HG_W2.out.below BB)
       clear BB)
    | (refine wpList_store_row rfl 24 (.tmp 11) (.tmp 36) rfl v3.heap.size TF rfl rfl _ _ HN_v3.out UF.out.1 UF.out.2.1 UF.out.2.2 ?_))
  rw [World.setRow_alloc_new]
  have HB_W3 := Lib.hid (show Below w.heap.size w (v3.alloc (.cells TF 24)) from HB_v3.out.trans ((alloc_below _ _).mono HB_v3.out.size))
  have R0_W3 := Lib.hid (show (v3.alloc (.cells TF 24)).heap[w.heap.size]? = some (.cells CA 24 (0, 0)) by rw [(alloc_below _ _).block _ (lt_of_row R0_v3.out)]; exact R0_v3.out)
  have RX_W3 := Lib.hid (show (v3.alloc (.cells TF 24)).heap[g1]? = some (.cells TX 24 (0, 0)) by rw [(alloc_below _ _).block _ (lt_of_row RX_v3.out)]; exact RX_v3.out)
  have RY_W3 := Lib.hid (show (v3.alloc (.cells TF 24)).heap[g2]? = some (.cells TX 24 (0, 0)) by rw [(alloc_below _ _).block _ (lt_of_row RY_v3.out)]; exact RY_v3.out)
  have RZ_W3 := Lib.hid (show (v3.alloc (.cells TF 24)).heap[v3.heap.size]? = some (.cells TF 24 (0, 0)) from heap_alloc_new _ _)
  have HG_W3 := Lib.hid (HG_v3.out.below (alloc_below v3 (.cells TF 24)))
  clear HB_v3 HN_v3 R0_v3 RX_v3 RY_v3 HG_v3
  generalize v3.heap.size = g3 at *
  generalize v3.alloc (.cells TF 24) = W3 at *
  have S1 := Lib.hid (fun w' (hG : Gr W3 w') => S1'.out w' (HB_W3.out.trans (hG.mono HB_W3.out.size)))
  have S2 := Lib.hid (fun w' (hG : Gr W3 w') => S2'.out w' (HB_W3.out.trans (hG.mono HB_W3.out.size)))
  have C0 := Lib.hid (fun (w' : World) (hG : Gr W3 w') => HC0.out w' (hG.row R0_W3.out))
  have C1 := Lib.hid (fun (w' : World) (hG : Gr W3 w') => HC1.out w' (hG.row R0_W3.out))
  have C2 := Lib.hid (fun (w' : World) (hG : Gr W3 w') => HC2.out w' (hG.row R0_W3.out))
  have C3 := Lib.hid (fun (w' : World) (hG : Gr W3 w') => HC3.out w' (hG.row R0_W3.out))
  refine with_act fun a0 ha0 => ?_
  have hl : mkT.length = a0.tmps.size := by rw [ha0]; rfl
  have k2 : a0.tmps[2]?.getD undef = .slice A n c := by rw [ha0]; rfl
  have k3 : a0.tmps[3]?.getD undef = .pointer (some ⟨w.heap.size, 0, none⟩) := by rw [ha0]; rfl
  have k7 : a0.tmps[7]?.getD undef = .pointer (some ⟨g1, 0, none⟩) := by rw [ha0]; rfl
  have k8 : a0.tmps[8]?.getD undef = .int .i64 er := by rw [ha0]; rfl
  have k9 : a0.tmps[9]?.getD undef = .pointer (some ⟨g2, 0, none⟩) := by rw [ha0]; rfl
  have k10 : a0.tmps[10]?.getD undef = .int .i64 er := by rw [ha0]; rfl
  have k11 : a0.tmps[11]?.getD undef = .pointer (some ⟨g3, 0, none⟩) := by rw [ha0]; rfl
  refine wp_region_vals (by kernel_rfl) mkT (by kernel_rfl) (by kernel_rfl) hl (fun i => if i = 51 then .bool false else undef) (by rw [ha0]; rfl) (Gr W3) (mkV w.heap.size g1 g2 g3 TX TF CA TS er A n c x0 x1 x2 x3 bs SB my) (gr_drew _) (mkV.keep _ _ _ _ _ _ _ _ _ _ _ _ _ _ _ _ _ _ _) ⟨?_, ?_, ?_, ?_, ?_, ?_, ?_, ?_, ?_, ?_, ?_, ?_, ?_, ?_, ?_, ?_, ?_, ?_, ?_, ?_, ?_, ?_, ?_, ?_, ?_, ?_, ?_, ?_, ?_, ?_, ?_, ?_, ?_, ?_, ?_, ?_, ?_, ?_, ?_, ?_, ?_, ?_, ?_, ?_, ?_, ?_, ?_, ?_, ?_, ?_, ?_, ?_, trivial⟩ ?_
  · refine step_plain [] (by kernel_rfl) rfl fun us w' hG hV => ?_
    have o7 := (frame_old2 (us := us) (a := a0) (show (mkT[7]?).join = none from rfl)).trans k7
    have hg1 := hG.row RX_W3.out
    generalize frame mkT a0 us = fr at *
    exact load_ok 24 7 rfl (g1) o7 _ _ (0, 0) _ hg1 Tryd.underlying24 rfl UX.out.1 hG rfl
  · refine step_plain [] (by kernel_rfl) rfl fun us w' hG hV => ?_
    have o9 := (frame_old2 (us := us) (a := a0) (show (mkT[9]?).join = none from rfl)).trans k9
    have hg1 := hG.row RY_W3.out
    generalize frame mkT a0 us = fr at *
    exact load_ok 24 9 rfl (g2) o9 _ _ (0, 0) _ hg1 Tryd.underlying24 rfl UX.out.1 hG rfl
  · refine step_plain [0, 1] (by kernel_rfl) rfl fun us w' hG hV => ?_
    have e0 : us 0 = .agg TX := hV 0 (by simp)
    have v0 := (frame_at2 (us := us) hl (show (mkT[38]?).join = some 0 from rfl)).trans e0
    have e1 : us 1 = .agg TX := hV 1 (by simp)
    have v1 := (frame_at2 (us := us) hl (show (mkT[39]?).join = some 1 from rfl)).trans e1
    generalize frame mkT a0 us = fr at *
    exact val_ok (v := .bool true) (w' := w') (eq_run rfl v0 v1 (EQX.out w') guard_addr) hG (Below.refl _ _) rfl
  · refine step_plain [2] (by kernel_rfl) rfl fun us w' hG hV => ?_
    have e2 : us 2 = .bool true := hV 2 (by simp)
    have v2 := (frame_at2 (us := us) hl (show (mkT[40]?).join = some 2 from rfl)).trans e2
    generalize frame mkT a0 us = fr at *
    exact val_ok (v := .bool true) (w' := w') (by go_simp) hG (Below.refl _ _) rfl
  · refine step_guard [3] (by kernel_rfl) (j := 3) (t := 41) (b := true) rfl (by simp) rfl hl rfl (fun v w h => h) fun us w' hG hV => ?_
    have o8 := (frame_old2 (us := us) (a := a0) (show (mkT[8]?).join = none from rfl)).trans k8
    generalize frame mkT a0 us = fr at *
    exact val_ok (v := .int .i64 er) (w' := w') (by go_simp) hG (Below.refl _ _) rfl
  · refine step_guard [3] (by kernel_rfl) (j := 3) (t := 41) (b := true) rfl (by simp) rfl hl rfl (fun v w h => h) fun us w' hG hV => ?_
    have o10 := (frame_old2 (us := us) (a := a0) (show (mkT[10]?).join = none from rfl)).trans k10
    generalize frame mkT a0 us = fr at *
    exact val_ok (v := .int .i64 er) (w' := w') (by go_simp) hG (Below.refl _ _) rfl
  · refine step_guard [3, 4, 5] (by kernel_rfl) (j := 3) (t := 41) (b := true) rfl (by simp) rfl hl rfl (fun v w h => h) fun us w' hG hV => ?_
    have e4 : us 4 = .int .i64 er := hV 4 (by simp)
    have v4 := (frame_at2 (us := us) hl (show (mkT[42]?).join = some 4 from rfl)).trans e4
    have e5 : us 5 = .int .i64 er := hV 5 (by simp)
    have v5 := (frame_at2 (us := us) hl (show (mkT[43]?).join = some 5 from rfl)).trans e5
    generalize frame mkT a0 us = fr at *
    exact val_ok (v := .bool true) (w' := w') (by go_simp) hG (Below.refl _ _) rfl
  · refine step_plain [3, 6] (by kernel_rfl) rfl fun us w' hG hV => ?_
    have e3 : us 3 = .bool true := hV 3 (by simp)
    have v3 := (frame_at2 (us := us) hl (show (mkT[41]?).join = some 3 from rfl)).trans e3
    have e6 : us 6 = .bool true := hV 6 (by simp)
    have v6 := (frame_at2 (us := us) hl (show (mkT[44]?).join = some 6 from rfl)).trans e6
    generalize frame mkT a0 us = fr at *
    exact val_ok (v := .bool true) (w' := w') (by go_simp) hG (Below.refl _ _) rfl
  · refine step_plain [7] (by kernel_rfl) rfl fun us w' hG hV => ?_
    have e7 : us 7 = .bool true := hV 7 (by simp)
    have v7 := (frame_at2 (us := us) hl (show (mkT[45]?).join = some 7 from rfl)).trans e7
    generalize frame mkT a0 us = fr at *
    exact val_ok (v := .bool true) (w' := w') (by go_simp) hG (Below.refl _ _) rfl
  · refine step_guard [8] (by kernel_rfl) (j := 8) (t := 46) (b := true) rfl (by simp) rfl hl rfl (fun v w h => h) fun us w' hG hV => ?_
    have o2 := (frame_old2 (us := us) (a := a0) (show (mkT[2]?).join = none from rfl)).trans k2
    generalize frame mkT a0 us = fr at *
    exact val_ok (v := .slice A n c) (w' := w') (by go_simp) hG (Below.refl _ _) rfl
  · refine step_guard [8, 9] (by kernel_rfl) (j := 8) (t := 46) (b := true) rfl (by simp) rfl hl rfl (fun v w h => h) fun us w' hG hV => ?_
    have e9 : us 9 = .slice A n c := hV 9 (by simp)
    have v9 := (frame_at2 (us := us) hl (show (mkT[47]?).join = some 9 from rfl)).trans e9
    generalize frame mkT a0 us = fr at *
    exact call_ok (f := 10) (args := #[.slice A n c]) (by go_simp) ((S1.out w' hG).mono fun e w'' h => ⟨_, h.1, hG.below h.2, h.2, rfl⟩)
  · refine step_guard [8] (by kernel_rfl) (j := 8) (t := 46) (b := true) rfl (by simp) rfl hl rfl (fun v w h => h) fun us w' hG hV => ?_
    have o2 := (frame_old2 (us := us) (a := a0) (show (mkT[2]?).join = none from rfl)).trans k2
    generalize frame mkT a0 us = fr at *
    exact val_ok (v := .slice A n c) (w' := w') (by go_simp) hG (Below.refl _ _) rfl
  · refine step_guard [8, 11] (by kernel_rfl) (j := 8) (t := 46) (b := true) rfl (by simp) rfl hl rfl (fun v w h => h) fun us w' hG hV => ?_
    have e11 : us 11 = .slice A n c := hV 11 (by simp)
    have v11 := (frame_at2 (us := us) hl (show (mkT[49]?).join = some 11 from rfl)).trans e11
    generalize frame mkT a0 us = fr at *
    exact call_ok (f := 11) (args := #[.slice A n c]) (by go_simp) ((S2.out w' hG).mono fun e w'' h => ⟨_, h.1, hG.below h.2, h.2, rfl⟩)
  · refine step_guard [8, 10, 12] (by kernel_rfl) (j := 8) (t := 46) (b := true) rfl (by simp) rfl hl rfl (fun v w h => h) fun us w' hG hV => ?_
    have e10 : us 10 = .agg TS := hV 10 (by simp)
    have v10 := (frame_at2 (us := us) hl (show (mkT[48]?).join = some 10 from rfl)).trans e10
    have e12 : us 12 = .agg TS := hV 12 (by simp)
    have v12 := (frame_at2 (us := us) hl (show (mkT[50]?).join = some 12 from rfl)).trans e12
    generalize frame mkT a0 us = fr at *
    exact val_ok (v := .bool true) (w' := w') (eq_run rfl v10 v12 (EQS.out w') guard_addr) hG (Below.refl _ _) rfl
  · refine step_plain [8, 13] (by kernel_rfl) rfl fun us w' hG hV => ?_
    have e8 : us 8 = .bool true := hV 8 (by simp)
    have v8 := (frame_at2 (us := us) hl (show (mkT[46]?).join = some 8 from rfl)).trans e8
    have e13 : us 13 = .bool true := hV 13 (by simp)
    have v13 := (frame_at2 (us := us) hl (show (mkT[51]?).join = some 13 from rfl)).trans e13
    generalize frame mkT a0 us = fr at *
    exact val_ok (v := .bool true) (w' := w') (by go_simp) hG (Below.refl _ _) rfl
  · refine step_plain [14] (by kernel_rfl) rfl fun us w' hG hV => ?_
    have e14 : us 14 = .bool true := hV 14 (by simp)
    have v14 := (frame_at2 (us := us) hl (show (mkT[52]?).join = some 14 from rfl)).trans e14
    generalize frame mkT a0 us = fr at *
    exact val_ok (v := .bool true) (w' := w') (by go_simp) hG (Below.refl _ _) rfl
  · refine step_guard [15] (by kernel_rfl) (j := 15) (t := 53) (b := true) rfl (by simp) rfl hl rfl (fun v w h => h) fun us w' hG hV => ?_
    have o3 := (frame_old2 (us := us) (a := a0) (show (mkT[3]?).join = none from rfl)).trans k3
    generalize frame mkT a0 us = fr at *
    exact val_ok (v := .pointer (some ⟨w.heap.size, 1, none⟩)) (w' := w') (by go_simp) hG (Below.refl _ _) rfl
  · refine step_guard [15, 16] (by kernel_rfl) (j := 15) (t := 53) (b := true) rfl (by simp) rfl hl rfl (fun v w h => h) fun us w' hG hV => ?_
    have e16 : us 16 = .pointer (some ⟨w.heap.size, 1, none⟩) := hV 16 (by simp)
    have v16 := (frame_at2 (us := us) hl (show (mkT[54]?).join = some 16 from rfl)).trans e16
    generalize frame mkT a0 us = fr at *
    exact val_ok (v := .pointer (some ⟨w.heap.size, 1, none⟩)) (w' := w') (by go_simp) hG (Below.refl _ _) rfl
  · refine step_guard [15, 17] (by kernel_rfl) (j := 15) (t := 53) (b := true) rfl (by simp) rfl hl rfl (fun v w h => h) fun us w' hG hV => ?_
    have e17 : us 17 = .pointer (some ⟨w.heap.size, 1, none⟩) := hV 17 (by simp)
    have v17 := (frame_at2 (us := us) hl (show (mkT[55]?).join = some 17 from rfl)).trans e17
    have hc := C0.out w' hG
    generalize frame mkT a0 us = fr at *
    exact val_ok (v := .int .u8 x0) (w' := w') (by go_simp) hG (Below.refl _ _) rfl
  · refine step_guard [15] (by kernel_rfl) (j := 15) (t := 53) (b := true) rfl (by simp) rfl hl rfl (fun v w h => h) fun us w' hG hV => ?_
    have o3 := (frame_old2 (us := us) (a := a0) (show (mkT[3]?).join = none from rfl)).trans k3
    generalize frame mkT a0 us = fr at *
    exact val_ok (v := .pointer (some ⟨w.heap.size, 1, none⟩)) (w' := w') (by go_simp) hG (Below.refl _ _) rfl
  · refine step_guard [15, 19] (by kernel_rfl) (j := 15) (t := 53) (b := true) rfl (by simp) rfl hl rfl (fun v w h => h) fun us w' hG hV => ?_
    have e19 : us 19 = .pointer (some ⟨w.heap.size, 1, none⟩) := hV 19 (by simp)
    have v19 := (frame_at2 (us := us) hl (show (mkT[57]?).join = some 19 from rfl)).trans e19
    generalize frame mkT a0 us = fr at *
    exact val_ok (v := .pointer (some ⟨w.heap.size, 1 + 1, none⟩)) (w' := w') (by go_simp) hG (Below.refl _ _) rfl
  · refine step_guard [15, 20] (by kernel_rfl) (j := 15) (t := 53) (b := true) rfl (by simp) rfl hl rfl (fun v w h => h) fun us w' hG hV => ?_
    have e20 : us 20 = .pointer (some ⟨w.heap.size, 1 + 1, none⟩) := hV 20 (by simp)
    have v20 := (frame_at2 (us := us) hl (show (mkT[58]?).join = some 20 from rfl)).trans e20
    have hc := C1.out w' hG
    generalize frame mkT a0 us = fr at *
    exact val_ok (v := .int .u8 x1) (w' := w') (by go_simp) hG (Below.refl _ _) rfl
  · refine step_guard [15] (by kernel_rfl) (j := 15) (t := 53) (b := true) rfl (by simp) rfl hl rfl (fun v w h => h) fun us w' hG hV => ?_
    have o3 := (frame_old2 (us := us) (a := a0) (show (mkT[3]?).join = none from rfl)).trans k3
    generalize frame mkT a0 us = fr at *
    exact val_ok (v := .pointer (some ⟨w.heap.size, 1, none⟩)) (w' := w') (by go_simp) hG (Below.refl _ _) rfl
  · refine step_guard [15, 22] (by kernel_rfl) (j := 15) (t := 53) (b := true) rfl (by simp) rfl hl rfl (fun v w h => h) fun us w' hG hV => ?_
    have e22 : us 22 = .pointer (some ⟨w.heap.size, 1, none⟩) := hV 22 (by simp)
    have v22 := (frame_at2 (us := us) hl (show (mkT[60]?).join = some 22 from rfl)).trans e22
    generalize frame mkT a0 us = fr at *
    exact val_ok (v := .pointer (some ⟨w.heap.size, 1 + 2, none⟩)) (w' := w') (by go_simp) hG (Below.refl _ _) rfl
  · refine step_guard [15, 23] (by kernel_rfl) (j := 15) (t := 53) (b := true) rfl (by simp) rfl hl rfl (fun v w h => h) fun us w' hG hV => ?_
    have e23 : us 23 = .pointer (some ⟨w.heap.size, 1 + 2, none⟩) := hV 23 (by simp)
    have v23 := (frame_at2 (us := us) hl (show (mkT[61]?).join = some 23 from rfl)).trans e23
    have hc := C2.out w' hG
    generalize frame mkT a0 us = fr at *
    exact val_ok (v := .int .u8 x2) (w' := w') (by go_simp) hG (Below.refl _ _) rfl
  · refine step_guard [15] (by kernel_rfl) (j := 15) (t := 53) (b := true) rfl (by simp) rfl hl rfl (fun v w h => h) fun us w' hG hV => ?_
    have o3 := (frame_old2 (us := us) (a := a0) (show (mkT[3]?).join = none from rfl)).trans k3
    generalize frame mkT a0 us = fr at *
    exact val_ok (v := .pointer (some ⟨w.heap.size, 1, none⟩)) (w' := w') (by go_simp) hG (Below.refl _ _) rfl
  · refine step_guard [15, 25] (by kernel_rfl) (j := 15) (t := 53) (b := true) rfl (by simp) rfl hl rfl (fun v w h => h) fun us w' hG hV => ?_
    have e25 : us 25 = .pointer (some ⟨w.heap.size, 1, none⟩) := hV 25 (by simp)
    have v25 := (frame_at2 (us := us) hl (show (mkT[63]?).join = some 25 from rfl)).trans e25
    generalize frame mkT a0 us = fr at *
    exact val_ok (v := .pointer (some ⟨w.heap.size, 1 + 3, none⟩)) (w' := w') (by go_simp) hG (Below.refl _ _) rfl
  · refine step_guard [15, 26] (by kernel_rfl) (j := 15) (t := 53) (b := true) rfl (by simp) rfl hl rfl (fun v w h => h) fun us w' hG hV => ?_
    have e26 : us 26 = .pointer (some ⟨w.heap.size, 1 + 3, none⟩) := hV 26 (by simp)
    have v26 := (frame_at2 (us := us) hl (show (mkT[64]?).join = some 26 from rfl)).trans e26
    have hc := C3.out w' hG
    generalize frame mkT a0 us = fr at *
    exact val_ok (v := .int .u8 x3) (w' := w') (by go_simp) hG (Below.refl _ _) rfl
  · refine step_guard [15, 18, 21, 24, 27] (by kernel_rfl) (j := 15) (t := 53) (b := true) rfl (by simp) rfl hl rfl (fun v w h => h) fun us w' hG hV => ?_
    have e18 : us 18 = .int .u8 x0 := hV 18 (by simp)
    have v18 := (frame_at2 (us := us) hl (show (mkT[56]?).join = some 18 from rfl)).trans e18
    have e21 : us 21 = .int .u8 x1 := hV 21 (by simp)
    have v21 := (frame_at2 (us := us) hl (show (mkT[59]?).join = some 21 from rfl)).trans e21
    have e24 : us 24 = .int .u8 x2 := hV 24 (by simp)
    have v24 := (frame_at2 (us := us) hl (show (mkT[62]?).join = some 24 from rfl)).trans e24
    have e27 : us 27 = .int .u8 x3 := hV 27 (by simp)
    have v27 := (frame_at2 (us := us) hl (show (mkT[65]?).join = some 27 from rfl)).trans e27
    generalize frame mkT a0 us = fr at *
    exact call_ok (f := 12) (args := #[.int .u8 x0, .int .u8 x1, .int .u8 x2, .int .u8 x3]) (by go_simp) ((F4.out w').mono fun e w'' h => ⟨_, h.1, hG.below h.2, h.2, rfl⟩)
  · refine step_guard [15] (by kernel_rfl) (j := 15) (t := 53) (b := true) rfl (by simp) rfl hl rfl (fun v w h => h) fun us w' hG hV => ?_
    have o11 := (frame_old2 (us := us) (a := a0) (show (mkT[11]?).join = none from rfl)).trans k11
    have hg1 := hG.row RZ_W3.out
    generalize frame mkT a0 us = fr at *
    exact load_ok 24 11 rfl (g3) o11 _ _ (0, 0) _ hg1 Tryd.underlying24 rfl UF.out.1 hG rfl
  · refine step_guard [15, 28, 29] (by kernel_rfl) (j := 15) (t := 53) (b := true) rfl (by simp) rfl hl rfl (fun v w h => h) fun us w' hG hV => ?_
    have e28 : us 28 = .agg TF := hV 28 (by simp)
    have v28 := (frame_at2 (us := us) hl (show (mkT[66]?).join = some 28 from rfl)).trans e28
    have e29 : us 29 = .agg TF := hV 29 (by simp)
    have v29 := (frame_at2 (us := us) hl (show (mkT[67]?).join = some 29 from rfl)).trans e29
    generalize frame mkT a0 us = fr at *
    exact val_ok (v := .bool true) (w' := w') (eq_run rfl v28 v29 (EQF.out w') guard_addr) hG (Below.refl _ _) rfl
  · refine step_plain [15, 30] (by kernel_rfl) rfl fun us w' hG hV => ?_
    have e15 : us 15 = .bool true := hV 15 (by simp)
    have v15 := (frame_at2 (us := us) hl (show (mkT[53]?).join = some 15 from rfl)).trans e15
    have e30 : us 30 = .bool true := hV 30 (by simp)
    have v30 := (frame_at2 (us := us) hl (show (mkT[68]?).join = some 30 from rfl)).trans e30
    generalize frame mkT a0 us = fr at *
    exact val_ok (v := .bool true) (w' := w') (by go_simp) hG (Below.refl _ _) rfl
  · refine step_plain [31] (by kernel_rfl) rfl fun us w' hG hV => ?_
    have e31 : us 31 = .bool true := hV 31 (by simp)
    have v31 := (frame_at2 (us := us) hl (show (mkT[69]?).join = some 31 from rfl)).trans e31
    generalize frame mkT a0 us = fr at *
    exact val_ok (v := .bool true) (w' := w') (by go_simp) hG (Below.refl _ _) rfl
  · refine step_guard [32] (by kernel_rfl) (j := 32) (t := 70) (b := true) rfl (by simp) rfl hl rfl (fun v w h => h) fun us w' hG hV => ?_
    have o3 := (frame_old2 (us := us) (a := a0) (show (mkT[3]?).join = none from rfl)).trans k3
    have hg1 := hG.row R0_W3.out
    generalize frame mkT a0 us = fr at *
    exact load_ok 24 3 rfl (w.heap.size) o3 _ _ (0, 0) _ hg1 Tryd.underlying24 rfl UA.out hG rfl
  · refine step_guard [32, 33] (by kernel_rfl) (j := 32) (t := 70) (b := true) rfl (by simp) rfl hl rfl (fun v w h => h) fun us w' hG hV => ?_
    have e33 : us 33 = .agg CA := hV 33 (by simp)
    have v33 := (frame_at2 (us := us) hl (show (mkT[71]?).join = some 33 from rfl)).trans e33
    generalize frame mkT a0 us = fr at *
    exact call_ok (f := 13) (args := #[.agg CA]) (by go_simp) (bytRet_call (P := fun _ => True) hG (B1.out w'))
  · refine step_guard [32, 34] (by kernel_rfl) (j := 32) (t := 70) (b := true) rfl (by simp) rfl hl rfl (fun v w h => h) fun us w' hG hV => ?_
    obtain ⟨A34, n34, c34, e34, N34⟩ := (show ∃ A n c, us 34 = .slice A n c ∧ Nums .u8 w' w'.heap.size A n bs from hV 34 (by simp))
    have v34 := (frame_at2 (us := us) hl (show (mkT[72]?).join = some 34 from rfl)).trans e34
    have hcv := run_string N34 c34 25 5 9 Tryd.underlying25 Tryd.underlying5 Tryd.underlying9
    rw [SBE.out] at hcv
    generalize frame mkT a0 us = fr at *
    exact val_ok (v := .string SB) (w' := w') (by go_simp) hG (Below.refl _ _) rfl
  · refine step_guard [32] (by kernel_rfl) (j := 32) (t := 70) (b := true) rfl (by simp) rfl hl rfl (fun v w h => h) fun us w' hG hV => ?_
    have o3 := (frame_old2 (us := us) (a := a0) (show (mkT[3]?).join = none from rfl)).trans k3
    have hg1 := hG.row R0_W3.out
    generalize frame mkT a0 us = fr at *
    exact load_ok 24 3 rfl (w.heap.size) o3 _ _ (0, 0) _ hg1 Tryd.underlying24 rfl UA.out hG rfl
  · refine step_guard [32, 36] (by kernel_rfl) (j := 32) (t := 70) (b := true) rfl (by simp) rfl hl rfl (fun v w h => h) fun us w' hG hV => ?_
    have e36 : us 36 = .agg CA := hV 36 (by simp)
    have v36 := (frame_at2 (us := us) hl (show (mkT[74]?).join = some 36 from rfl)).trans e36
    generalize frame mkT a0 us = fr at *
    exact call_ok (f := 14) (args := #[.agg CA]) (by go_simp) (bytRet_call (P := fun _ => True) hG (B2.out w'))
  · refine step_guard [32, 37] (by kernel_rfl) (j := 32) (t := 70) (b := true) rfl (by simp) rfl hl rfl (fun v w h => h) fun us w' hG hV => ?_
    obtain ⟨A37, n37, c37, e37, N37⟩ := (show ∃ A n c, us 37 = .slice A n c ∧ Nums .u8 w' w'.heap.size A n bs from hV 37 (by simp))
    have v37 := (frame_at2 (us := us) hl (show (mkT[75]?).join = some 37 from rfl)).trans e37
    have hcv := run_string N37 c37 25 5 9 Tryd.underlying25 Tryd.underlying5 Tryd.underlying9
    rw [SBE.out] at hcv
    generalize frame mkT a0 us = fr at *
    exact val_ok (v := .string SB) (w' := w') (by go_simp) hG (Below.refl _ _) rfl
  · refine step_guard [32, 35, 38] (by kernel_rfl) (j := 32) (t := 70) (b := true) rfl (by simp) rfl hl rfl (fun v w h => h) fun us w' hG hV => ?_
    have e35 : us 35 = .string SB := hV 35 (by simp)
    have v35 := (frame_at2 (us := us) hl (show (mkT[73]?).join = some 35 from rfl)).trans e35
    have e38 : us 38 = .string SB := hV 38 (by simp)
    have v38 := (frame_at2 (us := us) hl (show (mkT[76]?).join = some 38 from rfl)).trans e38
    generalize frame mkT a0 us = fr at *
    exact val_ok (v := .bool true) (w' := w') (seq_self (S := SB) (a := fr) rfl (by simpa only [Act.eval, Array.getD_eq_getD_getElem?] using v35) (by simpa only [Act.eval, Array.getD_eq_getD_getElem?] using v38)) hG (Below.refl _ _) rfl
  · refine step_plain [32, 39] (by kernel_rfl) rfl fun us w' hG hV => ?_
    have e32 : us 32 = .bool true := hV 32 (by simp)
    have v32 := (frame_at2 (us := us) hl (show (mkT[70]?).join = some 32 from rfl)).trans e32
    have e39 : us 39 = .bool true := hV 39 (by simp)
    have v39 := (frame_at2 (us := us) hl (show (mkT[77]?).join = some 39 from rfl)).trans e39
    generalize frame mkT a0 us = fr at *
    exact val_ok (v := .bool true) (w' := w') (by go_simp) hG (Below.refl _ _) rfl
  · refine step_plain [40] (by kernel_rfl) rfl fun us w' hG hV => ?_
    have e40 : us 40 = .bool true := hV 40 (by simp)
    have v40 := (frame_at2 (us := us) hl (show (mkT[78]?).join = some 40 from rfl)).trans e40
    generalize frame mkT a0 us = fr at *
    exact val_ok (v := .bool true) (w' := w') (by go_simp) hG (Below.refl _ _) rfl
  · refine step_guard [41] (by kernel_rfl) (j := 41) (t := 79) (b := true) rfl (by simp) rfl hl rfl (fun v w h => h) fun us w' hG hV => ?_
    have o3 := (frame_old2 (us := us) (a := a0) (show (mkT[3]?).join = none from rfl)).trans k3
    have hg1 := hG.row R0_W3.out
    generalize frame mkT a0 us = fr at *
    exact load_ok 24 3 rfl (w.heap.size) o3 _ _ (0, 0) _ hg1 Tryd.underlying24 rfl UA.out hG rfl
  · refine step_guard [41, 42] (by kernel_rfl) (j := 41) (t := 79) (b := true) rfl (by simp) rfl hl rfl (fun v w h => h) fun us w' hG hV => ?_
    have e42 : us 42 = .agg CA := hV 42 (by simp)
    have v42 := (frame_at2 (us := us) hl (show (mkT[80]?).join = some 42 from rfl)).trans e42
    generalize frame mkT a0 us = fr at *
    exact call_ok (f := 15) (args := #[.agg CA]) (by go_simp) ((M1.out w').mono fun e w'' h => ⟨_, h.1, hG.below h.2, h.2, rfl⟩)
  · refine step_guard [41] (by kernel_rfl) (j := 41) (t := 79) (b := true) rfl (by simp) rfl hl rfl (fun v w h => h) fun us w' hG hV => ?_
    have o3 := (frame_old2 (us := us) (a := a0) (show (mkT[3]?).join = none from rfl)).trans k3
    have hg1 := hG.row R0_W3.out
    generalize frame mkT a0 us = fr at *
    exact load_ok 24 3 rfl (w.heap.size) o3 _ _ (0, 0) _ hg1 Tryd.underlying24 rfl UA.out hG rfl
  · refine step_guard [41, 44] (by kernel_rfl) (j := 41) (t := 79) (b := true) rfl (by simp) rfl hl rfl (fun v w h => h) fun us w' hG hV => ?_
    have e44 : us 44 = .agg CA := hV 44 (by simp)
    have v44 := (frame_at2 (us := us) hl (show (mkT[82]?).join = some 44 from rfl)).trans e44
    generalize frame mkT a0 us = fr at *
    exact call_ok (f := 16) (args := #[.agg CA]) (by go_simp) ((M2.out w').mono fun e w'' h => ⟨_, h.1, hG.below h.2, h.2, rfl⟩)
  · refine step_guard [41, 43, 45] (by kernel_rfl) (j := 41) (t := 79) (b := true) rfl (by simp) rfl hl rfl (fun v w h => h) fun us w' hG hV => ?_
    have e43 : us 43 = .bool my := hV 43 (by simp)
    have v43 := (frame_at2 (us := us) hl (show (mkT[81]?).join = some 43 from rfl)).trans e43
    have e45 : us 45 = .bool my := hV 45 (by simp)
    have v45 := (frame_at2 (us := us) hl (show (mkT[83]?).join = some 45 from rfl)).trans e45
    generalize frame mkT a0 us = fr at *
    exact val_ok (v := .bool true) (w' := w') (by go_simp) hG (Below.refl _ _) rfl
  · refine step_plain [41, 46] (by kernel_rfl) rfl fun us w' hG hV => ?_
    have e41 : us 41 = .bool true := hV 41 (by simp)
    have v41 := (frame_at2 (us := us) hl (show (mkT[79]?).join = some 41 from rfl)).trans e41
    have e46 : us 46 = .bool true := hV 46 (by simp)
    have v46 := (frame_at2 (us := us) hl (show (mkT[84]?).join = some 46 from rfl)).trans e46
    generalize frame mkT a0 us = fr at *
    exact val_ok (v := .bool true) (w' := w') (by go_simp) hG (Below.refl _ _) rfl
  · refine step_plain [47] (by kernel_rfl) rfl fun us w' hG hV => ?_
    have e47 : us 47 = .bool true := hV 47 (by simp)
    have v47 := (frame_at2 (us := us) hl (show (mkT[85]?).join = some 47 from rfl)).trans e47
    generalize frame mkT a0 us = fr at *
    exact val_ok (v := .bool true) (w' := w') (by go_simp) hG (Below.refl _ _) rfl
  · refine step_guard [48] (by kernel_rfl) (j := 48) (t := 86) (b := true) rfl (by simp) rfl hl rfl (fun v w h => h) fun us w' hG hV => ?_
    generalize frame mkT a0 us = fr at *
    exact call_ok (f := 7) (args := #[]) (by go_simp) ((alive_any w' (HG_W3.out.below hG)).mono fun e w'' h => ⟨_, h.1, hG.below h.2, h.2, rfl⟩)
  · refine step_plain [48, 49] (by kernel_rfl) rfl fun us w' hG hV => ?_
    have e48 : us 48 = .bool true := hV 48 (by simp)
    have v48 := (frame_at2 (us := us) hl (show (mkT[86]?).join = some 48 from rfl)).trans e48
    have e49 : us 49 = .bool true := hV 49 (by simp)
    have v49 := (frame_at2 (us := us) hl (show (mkT[87]?).join = some 49 from rfl)).trans e49
    generalize frame mkT a0 us = fr at *
    exact val_ok (v := .bool true) (w' := w') (by go_simp) hG (Below.refl _ _) rfl
  · refine step_plain [50] (by kernel_rfl) rfl fun us w' hG hV => ?_
    have e50 : us 50 = .bool true := hV 50 (by simp)
    have v50 := (frame_at2 (us := us) hl (show (mkT[88]?).join = some 50 from rfl)).trans e50
    generalize frame mkT a0 us = fr at *
    exact val_ok (v := .bool true) (w' := w') (by go_simp) hG (Below.refl _ _) rfl
  · intro us w' hG hV
    have eL : us 51 = .bool true := hV 51 (by decide)
    subst ha0
    simp only [frame, mkT, fill]
    rw [eL]
    go_wp2_with fail
    go_ret
    exact ⟨rfl, HB_W3.out.trans (hG.mono HB_W3.out.size)⟩
end Go.Proofs.YtmkekdmkefkfiaaDoor.adC

/-
  Texts put together and cut again; digits.
-/
namespace Go.Proofs.YtmkekdmkefkfiaaDoor.adC
open Go.ChangeShapes Go.WideShapes Go.ChangeAt Go.RowKit
open Go.Proofs.YtmkekdmkefkfiaaDoor.memC Go.Proofs.YtmkekdmkefkfiaaDoor.genC
open Go.Proofs.YtmkekdmkefkfiaaDoor.hexM (nib nib_bd)
set_option linter.unusedVariables false
theorem take_while_at (c : Int) : ∀ (l r : List Int), c ∉ l → (l ++ c :: r).takeWhile (fun x => decide (x ≠ c)) = l ∧ (l ++ c :: r).dropWhile (fun x => decide (x ≠ c)) = c :: r
  | [], r, _ => by simp
  | x :: l, r, h => by
    have hx : x ≠ c := fun e => h (by simp [e])
    have hl : c ∉ l := fun e => h (by simp [e])
    obtain ⟨h1, h2⟩ := take_while_at c l r hl
    rw [List.cons_append, List.takeWhile_cons, List.dropWhile_cons, if_pos (by simpa using hx), if_pos (by simpa using hx), h1, h2]
    exact ⟨rfl, rfl⟩
theorem joinL_two (c : Int) (l m : List Int) (r : List (List Int)) : joinL [c] (l :: m :: r) = l ++ c :: joinL [c] (m :: r) := by
  show l ++ [c] ++ joinL [c] (m :: r) = _
  simp
theorem spl_join (c : Int) : ∀ ls : List (List Int), ls ≠ [] → (∀ l ∈ ls, c ∉ l) → splL c (joinL [c] ls) = ls
  | [], h, _ => absurd rfl h
  | [l], _, h => by
    show splL c l = [l]
    rw [splL_is, if_neg (h l (by simp))]
  | l :: m :: r, _, h => by
    have ih := spl_join c (m :: r) (by simp) fun x hx => h x (List.mem_cons_of_mem _ hx)
    obtain ⟨h1, h2⟩ := take_while_at c l (joinL [c] (m :: r)) (h l (by simp))
    rw [joinL_two, splL_is, if_pos (by simp), h1, h2, List.drop_one, List.tail_cons, ih]
theorem drop_mem (c : Int) : ∀ xs : List Int, c ∈ xs → ∃ r, xs.dropWhile (fun x => decide (x ≠ c)) = c :: r
  | [], h => by simp at h
  | x :: l, h => by
    rw [List.dropWhile_cons]
    by_cases hx : x = c
    · subst hx; exact ⟨l, by simp⟩
    · rw [if_pos (by simpa using hx)]
      refine drop_mem c l ?_
      rcases List.mem_cons.1 h with e | e
      · exact absurd e.symm hx
      · exact e
theorem join_spl (c : Int) (xs : List Int) : joinL [c] (splL c xs) = xs := by
  have key : ∀ n, ∀ xs : List Int, xs.length = n → joinL [c] (splL c xs) = xs := by
    intro n
    induction n using Nat.strongRecOn with
    | ind n ih =>
      intro xs hn
      rw [splL_is]
      by_cases h : c ∈ xs
      · rw [if_pos h]
        have hw := List.takeWhile_append_dropWhile (p := fun x => decide (x ≠ c)) (l := xs)
        have hd := drop_mem c xs h
        obtain ⟨r, hr⟩ := hd
        rw [hr] at hw
        rw [hr, List.drop_one, List.tail_cons]
        have hlt : r.length < n := by
          have := congrArg List.length hw
          rw [List.length_append, List.length_cons] at this; omega
        have ihr := ih r.length hlt r rfl
        have hp := splL_pos c r
        cases hs : splL c r with
        | nil => rw [hs] at hp; simp at hp
        | cons m rest => rw [joinL_two, ← hs, ihr, hw]
      · rw [if_neg h]; rfl
  exact key _ xs rfl
theorem join_length (c : Int) : ∀ ls : List (List Int), (joinL [c] ls).length = (ls.map List.length).sum + (ls.length - 1)
  | [] => rfl
  | [l] => by show l.length = _; simp
  | l :: m :: r => by
    have ih := join_length c (m :: r)
    rw [joinL_two, List.length_append, List.length_cons, ih]
    simp only [List.map_cons, List.sum_cons, List.length_cons]
    omega
theorem join_mem (c : Int) : ∀ (ls : List (List Int)) (x : Int), x ∈ joinL [c] ls → x = c ∨ ∃ l ∈ ls, x ∈ l
  | [], x, h => by simp [joinL] at h
  | [l], x, h => .inr ⟨l, by simp, h⟩
  | l :: m :: r, x, h => by
    rw [joinL_two] at h
    rcases List.mem_append.1 h with h1 | h1
    · exact .inr ⟨l, by simp, h1⟩
    · rcases List.mem_cons.1 h1 with h2 | h2
      · exact .inl h2
      · rcases join_mem c (m :: r) x h2 with h3 | ⟨k, h3, h4⟩
        · exact .inl h3
        · exact .inr ⟨k, List.mem_cons_of_mem _ h3, h4⟩
theorem tenL_dig (n : Nat) : ∀ x ∈ tenL n, 48 ≤ x ∧ x ≤ 57 := by
  induction n using Nat.strongRecOn with
  | ind n ih =>
    by_cases h : n < 10
    · rw [tenL_low h]; intro x hx; rw [List.mem_singleton.1 hx]; omega
    · rw [tenL_snoc h]
      intro x hx
      rcases List.mem_append.1 hx with h1 | h1
      · exact ih (n / 10) (by omega) x h1
      · rw [List.mem_singleton.1 h1]; omega
theorem hexD_dig {d : Int} (h0 : 0 ≤ d) (h1 : d ≤ 15) : ((48 ≤ hexD d ∧ hexD d ≤ 57) ∨ (97 ≤ hexD d ∧ hexD d ≤ 102)) ∧ nib (hexD d) = d := by
  unfold hexD nib
  split <;> constructor <;> (try omega) <;> (split <;> (try split) <;> (try split) <;> omega)
theorem hexL_dig (n : Nat) : ∀ x ∈ hexL n, (48 ≤ x ∧ x ≤ 57) ∨ (97 ≤ x ∧ x ≤ 102) := by
  induction n using Nat.strongRecOn with
  | ind n ih =>
    by_cases h : n < 16
    · rw [hexL_low h]; intro x hx; rw [List.mem_singleton.1 hx]; exact (hexD_dig (by omega) (by omega)).1
    · rw [hexL_snoc h]
      intro x hx
      rcases List.mem_append.1 hx with h1 | h1
      · exact ih (n / 16) (by omega) x h1
      · rw [List.mem_singleton.1 h1]; exact (hexD_dig (by omega) (by omega)).1
theorem hexL_ne (n : Nat) : hexL n ≠ [] := by
  by_cases h : n < 16
  · rw [hexL_low h]; simp
  · rw [hexL_snoc h]; simp
/-- how many digits a number has -/
theorem hexL_size (n : Nat) : (n < 16 → (hexL n).length = 1) ∧ (16 ≤ n → n < 256 → (hexL n).length = 2) ∧ (256 ≤ n → n < 4096 → (hexL n).length = 3) ∧ (4096 ≤ n → n < 65536 → (hexL n).length = 4) := by
  have h1 : ∀ n, n < 16 → (hexL n).length = 1 := fun n h => by rw [hexL_low h]; rfl
  have h2 : ∀ n, 16 ≤ n → n < 256 → (hexL n).length = 2 := fun n h h' => by rw [hexL_snoc (by omega), List.length_append, h1 (n / 16) (by omega)]; rfl
  have h3 : ∀ n, 256 ≤ n → n < 4096 → (hexL n).length = 3 := fun n h h' => by rw [hexL_snoc (by omega), List.length_append, h2 (n / 16) (by omega) (by omega)]; rfl
  have h4 : ∀ n, 4096 ≤ n → n < 65536 → (hexL n).length = 4 := fun n h h' => by rw [hexL_snoc (by omega), List.length_append, h3 (n / 16) (by omega) (by omega)]; rfl
  exact ⟨h1 n, h2 n, h3 n, h4 n⟩
theorem hexL_four {n : Nat} (h : n < 65536) : 1 ≤ (hexL n).length ∧ (hexL n).length ≤ 4 := by
  obtain ⟨h1, h2, h3, h4⟩ := hexL_size n
  omega
theorem gofF_snoc (c : Int) : ∀ (xs : List Int) (m v : Nat), gofF xs m = v → gofF (xs ++ [c]) m = if nib c ≤ 15 then ((v * 16 + (nib c).toNat : Nat) : Int) else -1
  | [], m, v, h => by
    have : m = v := by unfold gofF at h; omega
    subst this
    rfl
  | x :: r, m, v, h => by
    unfold gofF at h
    rw [List.cons_append]
    by_cases hx : nib x ≤ 15
    · rw [if_pos hx] at h
      have ih := gofF_snoc c r _ v h
      rw [gofF, if_pos hx, ih]
    · rw [if_neg hx] at h; omega
theorem gofF_hex (n : Nat) : gofF (hexL n) 0 = n := by
  induction n using Nat.strongRecOn with
  | ind n ih =>
    by_cases h : n < 16
    · obtain ⟨_, hd⟩ := hexD_dig (d := (n : Int)) (by omega) (by omega)
      rw [hexL_low h, gofF, hd, if_pos (by omega), gofF]
      omega
    · obtain ⟨_, hd⟩ := hexD_dig (d := ((n % 16 : Nat) : Int)) (by omega) (by omega)
      rw [hexL_snoc h, gofF_snoc _ _ _ _ (ih (n / 16) (by omega)), hd, if_pos (by omega)]
      omega
theorem gofL_hex {n : Nat} (h : n < 65536) : gofL (hexL n) = n := by
  have := hexL_four h
  unfold gofL
  rw [if_neg (by omega), gofF_hex]
theorem hex_short {l : List Int} (h : 0 ≤ gofL l) : (hexL (gofL l).toNat).length ≤ l.length := by
  have hl : ¬ (l.length < 1 ∨ 4 < l.length) := fun e => by unfold gofL at h; rw [if_pos e] at h; omega
  have e : gofL l = gofF l 0 := by unfold gofL; rw [if_neg hl]
  have hb := (gofF_le l 0 0 (by decide)).2
  rw [Nat.zero_add, ← e] at hb
  obtain ⟨h1, h2, h3, h4⟩ := hexL_size (gofL l).toNat
  have h5 : l.length = 1 ∨ l.length = 2 ∨ l.length = 3 ∨ l.length = 4 := by omega
  rcases h5 with h6 | h6 | h6 | h6 <;> rw [h6] at hb ⊢
  · have : gofL l < 16 := hb
    omega
  · have : gofL l < 256 := hb
    omega
  · have : gofL l < 4096 := hb
    omega
  · have : gofL l < 65536 := hb
    omega
theorem gacc_hex : ∀ (gs acc : List Int), (∀ x ∈ gs, W16 x) → gacc (gs.map fun x => hexL x.toNat) acc = some (acc ++ gs)
  | [], acc, _ => by simp [gacc]
  | g :: r, acc, h => by
    have hg := h g (by simp)
    unfold W16 at hg
    have e : gofL (hexL g.toNat) = g := by rw [gofL_hex (by omega)]; omega
    rw [List.map_cons, gacc, e, if_neg (by omega), gacc_hex r _ fun x hx => h x (List.mem_cons_of_mem _ hx)]
    simp
theorem gacc_parts : ∀ (ls : List (List Int)) (acc gs : List Int), gacc ls acc = some gs → gs = acc ++ ls.map gofL ∧ ∀ l ∈ ls, 0 ≤ gofL l
  | [], acc, gs, h => by
    have : acc = gs := Option.some.inj h
    subst this; simp
  | l :: r, acc, gs, h => by
    unfold gacc at h
    split at h
    · cases h
    · rename_i hn
      obtain ⟨h1, h2⟩ := gacc_parts r _ gs h
      refine ⟨by rw [h1]; simp, fun x hx => ?_⟩
      rcases List.mem_cons.1 hx with rfl | h3
      · omega
      · exact h2 x h3
/-- no sign ':' behind another one, and none at the end -/
def nog : List Int → Prop
  | [] => True
  | [x] => x ≠ 58
  | x :: y :: r => ¬ (x = 58 ∧ y = 58) ∧ nog (y :: r)
theorem fnd_nog : ∀ xs, nog xs → fnd xs = none
  | [], _ => rfl
  | [x], h => by rw [fnd_cons, if_neg (by simp)]; rfl
  | x :: y :: r, h => by
    obtain ⟨h1, h2⟩ := h
    rw [fnd_cons, if_neg (by simpa using h1), fnd_nog (y :: r) h2]; rfl
theorem fnd_gap (b : List Int) : ∀ xs, nog xs → fnd (xs ++ 58 :: 58 :: b) = some xs.length
  | [], _ => by rw [List.nil_append, fnd_cons, if_pos (by simp)]; rfl
  | [x], h => by
    have ih := fnd_gap b [] trivial
    rw [List.nil_append] at ih
    rw [List.cons_append, List.nil_append, fnd_cons, if_neg (by simpa using fun e => absurd e h), ih]; rfl
  | x :: y :: r, h => by
    obtain ⟨h1, h2⟩ := h
    have ih := fnd_gap b (y :: r) h2
    rw [List.cons_append, fnd_cons, if_neg (by simpa using h1), ih]; rfl
theorem nog_word : ∀ l : List Int, 58 ∉ l → nog l
  | [], _ => trivial
  | [x], h => fun e => h (by simp [e])
  | x :: y :: r, h => ⟨fun e => h (by simp [e.1]), nog_word (y :: r) fun e => h (List.mem_cons_of_mem _ e)⟩
theorem nog_app (m : Int) (r : List Int) (hm : m ≠ 58) (hr : nog (m :: r)) : ∀ l : List Int, l ≠ [] → 58 ∉ l → nog (l ++ 58 :: m :: r)
  | [], h, _ => absurd rfl h
  | [x], _, h => ⟨fun e => h (by simp [e.1]), ⟨fun e => hm e.2, hr⟩⟩
  | x :: y :: k, _, h => ⟨fun e => h (by simp [e.1]), nog_app m r hm hr (y :: k) (by simp) fun e => h (List.mem_cons_of_mem _ e)⟩
theorem nog_join : ∀ ls : List (List Int), (∀ l ∈ ls, l ≠ [] ∧ 58 ∉ l) → nog (joinL [58] ls) ∧ (ls ≠ [] → ∃ m r, joinL [58] ls = m :: r ∧ m ≠ 58)
  | [], _ => ⟨trivial, fun h => absurd rfl h⟩
  | [l], h => by
    obtain ⟨h1, h2⟩ := h l (by simp)
    refine ⟨nog_word l h2, fun _ => ?_⟩
    match l, h1, h2 with
    | m :: r, _, h2 => exact ⟨m, r, rfl, fun e => h2 (by simp [e])⟩
  | l :: k :: r, h => by
    obtain ⟨h1, h2⟩ := h l (by simp)
    obtain ⟨i1, i2⟩ := nog_join (k :: r) fun x hx => h x (List.mem_cons_of_mem _ hx)
    obtain ⟨m, q, e, hm⟩ := i2 (by simp)
    rw [joinL_two, e]
    rw [e] at i1
    refine ⟨nog_app m q hm i1 l h1 h2, fun _ => ?_⟩
    match l, h1, h2 with
    | y :: t, _, h2 => exact ⟨y, _, rfl, fun e => h2 (by simp [e])⟩
theorem hex_word (x : Int) : hexL x.toNat ≠ [] ∧ 58 ∉ hexL x.toNat := ⟨hexL_ne _, fun h => by have := hexL_dig _ _ h; omega⟩
theorem hexT_nog (gs : List Int) : nog (hexT gs) := (nog_join _ fun l hl => by obtain ⟨x, _, rfl⟩ := List.mem_map.1 hl; exact hex_word x).1
theorem hexT_read {gs : List Int} (h : ∀ x ∈ gs, W16 x) (hl : gs.length ≤ 9) : cgrL (hexT gs) = some gs := by
  unfold cgrL
  by_cases h0 : gs = []
  · subst h0
    show (if ([] : List Int) = [] then some [] else _) = some []
    rw [if_pos rfl]
  · have hs : splL 58 (hexT gs) = gs.map fun x => hexL x.toNat := spl_join 58 _ (by simpa using h0) fun l hl => by obtain ⟨x, _, rfl⟩ := List.mem_map.1 hl; exact (hex_word x).2
    have hne : hexT gs ≠ [] := fun e => by
      rw [e] at hs
      match gs, h0 with
      | g :: r, _ =>
        have : splL 58 [] = [[]] := rfl
        rw [this, List.map_cons] at hs
        have h1 := (List.cons.inj hs).1
        exact hexL_ne _ h1.symm
    rw [if_neg hne, spn_few 58 8 _ (by rw [hs, List.length_map]; omega), hs, gacc_hex gs [] h]
    rfl
/-- a text of groups has at least as many signs as they when written -/
theorem cgr_short {xs gs : List Int} (h : cgrL xs = some gs) (h8 : gs.length ≤ 8) : (hexT gs).length ≤ xs.length := by
  unfold cgrL at h
  split at h
  · rename_i h0
    obtain rfl := Option.some.inj h
    exact Nat.zero_le _
  · obtain ⟨h1, h2⟩ := gacc_parts _ _ _ h
    rw [List.nil_append] at h1
    have hl : (splL 58 xs).length ≤ 9 := by
      rcases Nat.lt_or_ge 9 (splL 58 xs).length with h3 | h3
      · have h4 := (spn_many 58 8 xs (by omega)).1
        rw [h1, List.length_map] at h8
        omega
      · exact h3
    rw [spn_few 58 8 xs (by omega)] at h1 h2
    have hx := congrArg List.length (join_spl 58 xs)
    rw [join_length] at hx
    unfold hexT
    rw [join_length, h1, List.length_map, List.length_map, List.map_map, List.map_map]
    have key : ∀ ls : List (List Int), (∀ l ∈ ls, 0 ≤ gofL l) → (ls.map (List.length ∘ ((fun x : Int => hexL x.toNat) ∘ gofL))).sum ≤ (ls.map List.length).sum := by
      intro ls
      induction ls with
      | nil => intro _; exact Nat.le_refl _
      | cons l r ih =>
        intro hq
        have a1 := hex_short (hq l (by simp))
        have a2 := ih fun x hx => hq x (List.mem_cons_of_mem _ hx)
        simp only [List.map_cons, List.sum_cons, Function.comp] at a2 ⊢
        omega
    have : (List.map ((List.length ∘ fun x : Int => hexL x.toNat) ∘ gofL) (splL 58 xs)).sum ≤ (List.map List.length (splL 58 xs)).sum := key _ h2
    omega
end Go.Proofs.YtmkekdmkefkfiaaDoor.adC

/-
  What is written is read; what is read is written with at most one sign more.
-/
namespace Go.Proofs.YtmkekdmkefkfiaaDoor.adC
open Go.ChangeShapes Go.WideShapes Go.ChangeAt Go.RowKit
open Go.Proofs.YtmkekdmkefkfiaaDoor.memC Go.Proofs.YtmkekdmkefkfiaaDoor.genC
set_option linter.unusedVariables false
/-- the places from p on, k of them, are groups 0 -/
def Zer (gs : List Int) (p k : Nat) : Prop := ∀ j, p ≤ j → j < p + k → gs.getD j 0 = 0
theorem z_inv (gs : List Int) : ∀ i, Zer gs (zA gs i) (zM gs i) ∧ Zer gs (i - zR gs i) (zR gs i) ∧ (∀ p k, p + k ≤ i → Zer gs p k → k ≤ zM gs i) ∧ (∀ p k, p + k = i → Zer gs p k → k ≤ zR gs i)
  | 0 => ⟨fun j _ h => by have : zA gs 0 + zM gs 0 = 0 := rfl; omega, fun j _ h => by have : zR gs 0 = 0 := rfl; omega, fun p k h _ => by omega, fun p k h _ => by omega⟩
  | i + 1 => by
    obtain ⟨h1, h2, h3, h4⟩ := z_inv gs i
    obtain ⟨l1, l2, l3⟩ := z_le gs i
    by_cases h : gs.getD i 0 = 0
    · have hrun : Zer gs (i - zR gs i) (zR gs i + 1) := fun j a b => by
        rcases Nat.lt_or_ge j i with h5 | h5
        · exact h2 j a (by omega)
        · rw [show j = i by omega]; exact h
      have hend : ∀ p k, p + k = i + 1 → Zer gs p k → k ≤ zR gs i + 1 := fun p k e z => by
        rcases Nat.eq_zero_or_pos k with h0 | h0
        · omega
        · have := h4 p (k - 1) (by omega) fun j a b => z j a (by omega)
          omega
      by_cases hm : zM gs i < zR gs i + 1
      · obtain ⟨e1, e2, e3⟩ := z_more h hm
        rw [e1, e2, e3]
        refine ⟨hrun, by rw [show i + 1 - (zR gs i + 1) = i - zR gs i by omega]; exact hrun, fun p k e z => ?_, hend⟩
        rcases Nat.lt_or_ge (p + k) (i + 1) with h5 | h5
        · have := h3 p k (by omega) z; omega
        · exact hend p k (by omega) z
      · obtain ⟨e1, e2, e3⟩ := z_less h hm
        rw [e1, e2, e3]
        refine ⟨h1, by rw [show i + 1 - (zR gs i + 1) = i - zR gs i by omega]; exact hrun, fun p k e z => ?_, hend⟩
        rcases Nat.lt_or_ge (p + k) (i + 1) with h5 | h5
        · exact h3 p k (by omega) z
        · have := hend p k (by omega) z; omega
    · obtain ⟨e1, e2, e3⟩ := z_not h
      rw [e1, e2, e3]
      have hend : ∀ p k, p + k = i + 1 → Zer gs p k → k = 0 := fun p k e z => by
        rcases Nat.eq_zero_or_pos k with h0 | h0
        · exact h0
        · exact absurd (z i (by omega) (by omega)) h
      refine ⟨h1, fun j a b => by omega, fun p k e z => ?_, fun p k e z => by rw [hend p k e z]; exact Nat.le_refl _⟩
      rcases Nat.lt_or_ge (p + k) (i + 1) with h5 | h5
      · exact h3 p k (by omega) z
      · rw [hend p k (by omega) z]; exact Nat.zero_le _
/-- a list cut at the longest run -/
theorem z_cut {gs : List Int} (hl : gs.length = 8) : gs = gs.take (zA gs 8) ++ (zs (zM gs 8) ++ gs.drop (zA gs 8 + zM gs 8)) := by
  have hs := z_sum gs 8
  have hz := (z_inv gs 8).1
  have e1 : (gs.drop (zA gs 8)).take (zM gs 8) = zs (zM gs 8) := by
    apply List.ext_getElem?
    intro j
    by_cases hj : j < zM gs 8
    · have := hz (zA gs 8 + j) (by omega) (by omega)
      rw [List.getD_eq_getElem?_getD, List.getElem?_eq_getElem (by omega)] at this
      rw [List.getElem?_take, if_pos hj, List.getElem?_drop, List.getElem?_eq_getElem (by omega), List.getElem?_eq_getElem (by rw [zs_len]; exact hj)]
      simp only [Option.getD_some] at this
      rw [this]; simp [zs]
    · rw [List.getElem?_take, if_neg hj, List.getElem?_eq_none (by rw [zs_len]; omega)]
  have e2 := List.take_append_drop (zM gs 8) (gs.drop (zA gs 8))
  rw [e1, List.drop_drop] at e2
  rw [e2, List.take_append_drop]
theorem zs_w16 (n : Nat) : ∀ x ∈ zs n, W16 x := fun x hx => by rw [List.eq_of_mem_replicate hx]; unfold W16; omega
theorem hexT_no (gs : List Int) : 46 ∉ hexT gs := fun h => by
  rcases join_mem 58 _ _ h with h1 | ⟨l, hl, h1⟩
  · cases h1
  · obtain ⟨x, _, rfl⟩ := List.mem_map.1 hl
    have := hexL_dig _ _ h1
    omega
theorem psx_plain {gs : List Int} (h : ∀ x ∈ gs, W16 x) (hl : gs.length = 8) : psxL (hexT gs) = some gs := by
  have h1 := fnd_nog _ (hexT_nog gs)
  have h2 := hexT_read h (by omega)
  unfold psxL cutF cutB cutS
  rw [h1]
  simp only [h2]
  have h3 : cgrL [] = some [] := by unfold cgrL; rw [if_pos rfl]
  rw [h3]
  simp only [List.length_nil, hl, Option.isSome_none]
  rw [if_pos (by decide)]
  simp [zs]
theorem psx_gap {f k : List Int} (hf : ∀ x ∈ f, W16 x) (hk : ∀ x ∈ k, W16 x) (hl : f.length + k.length < 8) : psxL ((hexT f ++ [58, 58]) ++ hexT k) = some (f ++ (zs (8 - (f.length + k.length)) ++ k)) := by
  have e : (hexT f ++ [58, 58]) ++ hexT k = hexT f ++ 58 :: 58 :: hexT k := by simp
  have h1 := fnd_gap (hexT k) _ (hexT_nog f)
  have h2 := hexT_read hf (by omega)
  have h3 := hexT_read hk (by omega)
  unfold psxL cutF cutB cutS
  rw [e, h1]
  have e1 : (hexT f ++ 58 :: 58 :: hexT k).take (hexT f).length = hexT f := List.take_left
  have e2 : (hexT f ++ 58 :: 58 :: hexT k).drop ((hexT f).length + 2) = hexT k := by
    rw [List.drop_append, List.drop_of_length_le (by omega)]
    simp
  simp only [e1, e2, h2, h3, Option.isSome_some]
  rw [if_pos ⟨by omega, by simpa using hl⟩]
theorem ctext_six_read {b : List Int} (hl : b.length = 16) (hy : ∀ x ∈ b, Byte x) : psxL (ctextL true b) = some (grB b) := by
  have h1 := grB_len b
  have h2 := grB_w16 hl hy
  unfold ctextL
  rw [if_pos rfl]
  generalize grB b = gs at *
  by_cases hm : zM gs 8 < 2
  · rw [if_pos hm]; exact psx_plain h2 h1
  · have hs := z_sum gs 8
    have hc := z_cut h1
    have lf : (gs.take (zA gs 8)).length = zA gs 8 := by rw [List.length_take]; omega
    have lk : (gs.drop (zA gs 8 + zM gs 8)).length = 8 - (zA gs 8 + zM gs 8) := by rw [List.length_drop, h1]
    rw [if_neg hm, psx_gap (fun x hx => h2 x (List.mem_of_mem_take hx)) (fun x hx => h2 x (List.mem_of_mem_drop hx)) (by omega), lf, lk]
    rw [show 8 - (zA gs 8 + (8 - (zA gs 8 + zM gs 8))) = zM gs 8 by omega]
    exact congrArg some hc.symm
theorem ctext_no_dot (b : List Int) : 46 ∉ ctextL true b := by
  unfold ctextL
  rw [if_pos rfl]
  split
  · exact hexT_no _
  · intro h
    rcases List.mem_append.1 h with h | h
    · rcases List.mem_append.1 h with h | h
      · exact hexT_no _ h
      · simp at h
    · exact hexT_no _ h
theorem four_no {xs : List Int} (h : 46 ∉ xs) : fourG (spn 46 4 xs) = none := by
  have : spn 46 4 xs = [xs] := by rw [spn, if_neg h]
  rw [this]
  unfold fourG
  rw [if_neg (by simp)]
theorem zs_at (n j : Nat) : (zs n).getD j 0 = 0 := by
  unfold zs
  rw [List.getD_eq_getElem?_getD, List.getElem?_replicate]
  split <;> rfl
/-- the bytes of the groups of an address -/
theorem sixT_at (gs : List Int) : ∀ j k, j ≤ 8 → k < 16 → (sixT gs j).getD k 0 = if k < 2 * j then (if k % 2 = 0 then gs.getD (k / 2) 0 / 256 else gs.getD (k / 2) 0 % 256) else 0
  | 0, k, _, hk => by
    rw [if_neg (by omega)]
    exact zs_at 16 k
  | j + 1, k, hj, hk => by
    have ih := sixT_at gs j k (by omega) hk
    have hl := sixT_len gs j
    unfold sixT
    rw [List.getD_eq_getElem?_getD]
    by_cases h1 : k = 2 * j + 1
    · subst h1
      rw [List.getElem?_set_self (by rw [List.length_set]; omega), if_pos (by omega), if_neg (by omega), show (2 * j + 1) / 2 = j by omega]
      rfl
    · rw [List.getElem?_set_ne (fun e => h1 e.symm)]
      by_cases h2 : k = 2 * j
      · subst h2
        rw [List.getElem?_set_self (by omega), if_pos (by omega), if_pos (by omega), show (2 * j) / 2 = j by omega]
        rfl
      · rw [List.getElem?_set_ne (fun e => h2 e.symm), ← List.getD_eq_getElem?_getD, ih]
        by_cases h3 : k < 2 * j
        · rw [if_pos h3, if_pos (show k < 2 * (j + 1) by omega)]
        · rw [if_neg h3, if_neg (show ¬ k < 2 * (j + 1) by omega)]
theorem ext16' {x y : List Int} (hx : x.length = 16) (hy : y.length = 16) (h : ∀ j, j < 16 → x.getD j 0 = y.getD j 0) : x = y := by
  apply List.ext_getElem?
  intro j
  by_cases hj : j < 16
  · have := h j hj
    rw [List.getD_eq_getElem?_getD, List.getD_eq_getElem?_getD, List.getElem?_eq_getElem (by omega), List.getElem?_eq_getElem (by omega)] at this
    rw [List.getElem?_eq_getElem (by omega), List.getElem?_eq_getElem (by omega)]
    exact congrArg some this
  · rw [List.getElem?_eq_none (by omega), List.getElem?_eq_none (by omega)]
theorem six_back {b : List Int} (hl : b.length = 16) (hy : ∀ x ∈ b, Byte x) : sixB (grB b) = b := by
  unfold sixB
  rw [grB_len, show min 8 8 = 8 from rfl]
  refine ext16' (sixT_len _ _) hl fun k hk => ?_
  rw [sixT_at _ 8 k (Nat.le_refl _) hk, if_pos (by omega), grB_at b (by omega)]
  have hg := gr_is hy hl (i := k / 2) (by omega)
  obtain ⟨x0, x1⟩ := getD_byte hy (k := 2 * (k / 2)) (by omega)
  obtain ⟨y0, y1⟩ := getD_byte hy (k := 2 * (k / 2) + 1) (by omega)
  by_cases h : k % 2 = 0
  · rw [if_pos h, hg]
    rw [show 2 * (k / 2) = k by omega] at *
    omega
  · rw [if_neg h, hg]
    rw [show 2 * (k / 2) + 1 = k by omega] at *
    omega
/-- what is written is read -/
theorem back_six {b : List Int} (hl : b.length = 16) (hy : ∀ x ∈ b, Byte x) : cprsL (ctextL true b) = some (true, b) := by
  unfold cprsL
  rw [four_no (ctext_no_dot b), ctext_six_read hl hy, Option.map_some, six_back hl hy]
theorem fourF_is : ∀ (bs : List Int) (i : Nat) (b : List Int), (∀ x ∈ bs, Byte x) → fourF (bs.map fun x => tenL x.toNat) i b = some ((bs.zipIdx i).foldl (fun b x => b.set x.2 x.1) b)
  | [], i, b, _ => rfl
  | x :: r, i, b, h => by
    have hx := h x (by simp)
    unfold Byte at hx
    have e : bofL (tenL x.toNat) = x := by rw [bofL_found (n := x.toNat) rfl (by omega)]; omega
    rw [List.map_cons, fourF, e, if_neg (by omega), fourF_is r (i + 1) _ fun y hy => h y (List.mem_cons_of_mem _ hy)]
    rfl
theorem back_four {b : List Int} (hl : b.length = 16) (hy : ∀ x ∈ b, Byte x) : cprsL (ctextL false b) = some (false, b.take 4 ++ zs 12) := by
  have h4 : (adrL false b).length = 4 := adrL_len hl
  have hs : splL 46 (tenT (adrL false b)) = (adrL false b).map fun x => tenL x.toNat := spl_join 46 _ (fun e => by have := congrArg List.length e; rw [List.length_map, h4] at this; cases this) fun l hl' => by
    obtain ⟨x, _, rfl⟩ := List.mem_map.1 hl'
    intro h
    have := tenL_dig _ _ h
    omega
  have hc : ctextL false b = tenT (adrL false b) := by unfold ctextL; rw [if_neg (by decide)]
  have hf := fourF_is (adrL false b) 0 (zs 16) fun x hx => hy x (List.mem_of_mem_take hx)
  unfold cprsL
  rw [hc, spn_few 46 4 _ (by rw [hs, List.length_map, h4]; decide), hs]
  unfold fourG
  rw [if_pos (by rw [List.length_map, h4]), hf]
  have e : adrL false b = b.take 4 := rfl
  rw [e]
  match b, hl with
  | x0 :: x1 :: x2 :: x3 :: r, _ => rfl
/-! how long -/
def hsum (gs : List Int) : Nat := (gs.map fun x => (hexL x.toNat).length).sum
theorem hsum_app (a b : List Int) : hsum (a ++ b) = hsum a + hsum b := by unfold hsum; rw [List.map_append, List.sum_append]
theorem hsum_zs (n : Nat) : hsum (zs n) = n := by
  unfold hsum zs
  rw [List.map_replicate, show (0 : Int).toNat = 0 from rfl, hexL_low (by decide)]
  simp
theorem hexT_sum (gs : List Int) : (hexT gs).length = hsum gs + (gs.length - 1) := by
  unfold hexT hsum
  rw [join_length, List.length_map, List.map_map]
  rfl
theorem len_six {xs gs : List Int} (h : psxL xs = some gs) : gs.length = 8 ∧ (∀ x ∈ gs, W16 x) ∧ (if zM gs 8 < 2 then hexT gs else (hexT (gs.take (zA gs 8)) ++ [58, 58]) ++ hexT (gs.drop (zA gs 8 + zM gs 8))).length ≤ xs.length + 1 := by
  unfold psxL at h
  cases ha : cgrL (cutF xs) with
  | none => rw [ha] at h; cases h
  | some a =>
    cases hb : cgrL (cutB xs) with
    | none => rw [ha, hb] at h; cases h
    | some b =>
      rw [ha, hb] at h
      simp only at h
      split at h
      · rename_i hc
        obtain ⟨h8, hs⟩ := hc
        have e := Option.some.inj h
        have wa := (cgrL_ok ha).1
        have wb := (cgrL_ok hb).1
        have sa := cgr_short ha (by omega)
        have sb := cgr_short hb (by omega)
        obtain ⟨k, hk⟩ : ∃ k, k = 8 - (a.length + b.length) := ⟨_, rfl⟩
        rw [← hk] at e
        have hlen : gs.length = 8 := by rw [← e, List.length_append, List.length_append, zs_len]; omega
        have hw : ∀ x ∈ gs, W16 x := fun x hx => by
          rw [← e] at hx
          rcases List.mem_append.1 hx with h1 | h1
          · exact wa x h1
          · rcases List.mem_append.1 h1 with h1 | h1
            · exact zs_w16 _ x h1
            · exact wb x h1
        refine ⟨hlen, hw, ?_⟩
        rw [hexT_sum] at sa sb
        have hH : hsum gs = hsum a + (k + hsum b) := by rw [← e, hsum_app, hsum_app, hsum_zs]
        -- the text that came
        have hx : hsum a + (a.length - 1) + (hsum b + (b.length - 1)) + (if 0 < k then 2 else 0) ≤ xs.length := by
          unfold cutF at sa
          unfold cutB at sb
          unfold cutS at hs
          cases hf : fnd xs with
          | none =>
            rw [hf] at sa sb hs
            have hk0 : ¬ 0 < k := fun e0 => by
              have : decide (a.length + b.length < 8) = true := by rw [decide_eq_true_eq]; omega
              rw [this] at hs; cases hs
            rw [if_neg hk0]
            simp only [List.length_nil] at sa sb
            omega
          | some i =>
            rw [hf] at sa sb hs
            have hi := fnd_le _ _ hf
            simp only [List.length_take, List.length_drop] at sa sb
            split <;> omega
        -- the longest run is no shorter
        have hmax : k ≤ zM gs 8 := (z_inv gs 8).2.2.1 a.length k (by omega) fun j h1 h2 => by
          rw [← e, List.getD_eq_getElem?_getD, List.getElem?_append_right h1, List.getElem?_append_left (by rw [zs_len]; omega), List.getElem?_eq_getElem (by rw [zs_len]; omega)]
          simp [zs]
        have hsumz := z_sum gs 8
        have hcut := z_cut hlen
        have hH2 : hsum gs = hsum (gs.take (zA gs 8)) + (zM gs 8 + hsum (gs.drop (zA gs 8 + zM gs 8))) := by
          have := congrArg hsum hcut
          rw [hsum_app, hsum_app, hsum_zs] at this
          exact this
        have lf : (gs.take (zA gs 8)).length = zA gs 8 := by rw [List.length_take]; omega
        have lk : (gs.drop (zA gs 8 + zM gs 8)).length = 8 - (zA gs 8 + zM gs 8) := by rw [List.length_drop, hlen]
        split
        · rw [hexT_sum, hlen]
          split at hx <;> omega
        · rw [List.length_append, List.length_append, hexT_sum, hexT_sum, lf, lk]
          simp only [List.length_cons, List.length_nil]
          split at hx <;> omega
      · cases h
theorem fourF_parts : ∀ (ls : List (List Int)) (i : Nat) (b c : List Int), fourF ls i b = some c → ∀ l ∈ ls, 0 ≤ bofL l
  | [], i, b, c, _, l, h => by cases h
  | l :: r, i, b, c, h, x, hx => by
    unfold fourF at h
    split at h
    · cases h
    · rcases List.mem_cons.1 hx with rfl | h3
      · omega
      · exact fourF_parts r _ _ _ h x h3
theorem len_four {xs b : List Int} (h : fourG (spn 46 4 xs) = some b) : ctextL false b = xs := by
  unfold fourG at h
  split at h
  · rename_i h4
    have hl : (splL 46 xs).length ≤ 5 := by
      rcases Nat.lt_or_ge 5 (splL 46 xs).length with h3 | h3
      · have := (spn_many 46 4 xs (by omega)).1; omega
      · exact h3
    rw [spn_few 46 4 xs (by omega)] at h h4
    have hj := join_spl 46 xs
    match hs : splL 46 xs, h4 with
    | [l0, l1, l2, l3], _ =>
      rw [hs] at h hj
      have hp := fourF_parts _ _ _ _ h
      obtain ⟨n0, a0, b0, c0⟩ := bofL_is (hp l0 (by simp))
      obtain ⟨n1, a1, b1, c1⟩ := bofL_is (hp l1 (by simp))
      obtain ⟨n2, a2, b2, c2⟩ := bofL_is (hp l2 (by simp))
      obtain ⟨n3, a3, b3, c3⟩ := bofL_is (hp l3 (by simp))
      rw [fourF, b0, if_neg (by omega), fourF, b1, if_neg (by omega), fourF, b2, if_neg (by omega), fourF, b3, if_neg (by omega), fourF] at h
      obtain rfl := Option.some.inj h
      have e : adrL false (((((zs 16).set 0 (n0 : Int)).set 1 (n1 : Int)).set 2 (n2 : Int)).set 3 (n3 : Int)) = [(n0 : Int), n1, n2, n3] := rfl
      unfold ctextL
      rw [if_neg (by decide), e, ← hj]
      unfold tenT
      simp only [List.map_cons, List.map_nil, Int.toNat_natCast, c0, c1, c2, c3]
  · cases h
/-- what is read is written with at most one sign more -/
theorem len_back {xs : List Int} {s : Bool} {b : List Int} (h : cprsL xs = some (s, b)) : (ctextL s b).length ≤ xs.length + 1 := by
  unfold cprsL at h
  cases hf : fourG (spn 46 4 xs) with
  | some c =>
    rw [hf] at h
    have h1 := Option.some.inj h
    obtain ⟨rfl, rfl⟩ := Prod.mk.inj h1
    rw [len_four hf]; omega
  | none =>
    rw [hf] at h
    cases hp : psxL xs with
    | none => rw [hp] at h; cases h
    | some gs =>
      rw [hp] at h
      have h1 := Option.some.inj h
      obtain ⟨rfl, rfl⟩ := Prod.mk.inj h1
      obtain ⟨h8, hw, hl⟩ := len_six hp
      have e : grB (sixB gs) = gs := by
        apply List.ext_getElem?
        intro i
        by_cases hi : i < 8
        · have hg := grB_at (sixB gs) hi
          rw [List.getD_eq_getElem?_getD, List.getElem?_eq_getElem (by rw [grB_len]; exact hi)] at hg
          rw [List.getElem?_eq_getElem (by rw [grB_len]; exact hi), List.getElem?_eq_getElem (by omega)]
          simp only [Option.getD_some] at hg
          rw [hg]
          congr 1
          have hr := gr_is (sixB_byte hw) (sixB_len gs) hi
          have e8 : sixB gs = sixT gs 8 := by unfold sixB; rw [h8]; rfl
          rw [e8, sixT_at _ 8 _ (Nat.le_refl _) (by omega), sixT_at _ 8 _ (Nat.le_refl _) (by omega), if_pos (by omega), if_pos (by omega), if_pos (by omega), if_neg (by omega),
            show 2 * i / 2 = i by omega, show (2 * i + 1) / 2 = i by omega, List.getD_eq_getElem?_getD, List.getElem?_eq_getElem (by omega)] at hr
          rw [e8, hr]
          simp only [Option.getD_some]
          have := hw gs[i] (List.getElem_mem _)
          unfold W16 at this
          omega
        · rw [List.getElem?_eq_none (by rw [grB_len]; omega), List.getElem?_eq_none (by omega)]
      unfold ctextL
      rw [if_pos rfl, e]
      exact hl
theorem may_four {b : List Int} (hl : b.length = 16) (h : b.drop 4 = zs 12) : b.take 4 ++ zs 12 = b := by rw [← h, List.take_append_drop]
end Go.Proofs.YtmkekdmkefkfiaaDoor.adC

/-
  What a text that is written is like; what is read may be.
-/
namespace Go.Proofs.YtmkekdmkefkfiaaDoor.adC
open Go.ChangeShapes Go.WideShapes Go.ChangeAt Go.RowKit
open Go.Proofs.YtmkekdmkefkfiaaDoor.memC Go.Proofs.YtmkekdmkefkfiaaDoor.genC
set_option linter.unusedVariables false
theorem hexT_byte (gs : List Int) : ∀ x ∈ hexT gs, Byte x := fun x h => by
  rcases join_mem 58 _ _ h with rfl | ⟨l, hl, h1⟩
  · unfold Byte; decide
  · obtain ⟨y, _, rfl⟩ := List.mem_map.1 hl
    exact hexL_byte _ x h1
theorem ctext_byte (s : Bool) (b : List Int) : ∀ x ∈ ctextL s b, Byte x := by
  unfold ctextL
  split
  · split
    · exact hexT_byte _
    · intro x h
      rcases List.mem_append.1 h with h | h
      · rcases List.mem_append.1 h with h | h
        · exact hexT_byte _ x h
        · have : x = 58 := by simpa using h
          rw [this]; unfold Byte; decide
      · exact hexT_byte _ x h
  · intro x h
    rcases join_mem 46 _ _ h with rfl | ⟨l, hl, h1⟩
    · unfold Byte; decide
    · obtain ⟨y, _, rfl⟩ := List.mem_map.1 hl
      exact tenL_byte _ x h1
theorem hsum_le : ∀ gs : List Int, (∀ x ∈ gs, W16 x) → hsum gs ≤ 4 * gs.length
  | [], _ => Nat.le_refl _
  | g :: r, h => by
    have hg := h g (by simp)
    unfold W16 at hg
    have h1 := (hexL_four (n := g.toNat) (by omega)).2
    have h2 := hsum_le r fun x hx => h x (List.mem_cons_of_mem _ hx)
    unfold hsum at h2 ⊢
    simp only [List.map_cons, List.sum_cons, List.length_cons]
    omega
theorem hexT_small {gs : List Int} (h : ∀ x ∈ gs, W16 x) (hl : gs.length ≤ 8) : (hexT gs).length ≤ 40 := by
  have := hsum_le gs h
  rw [hexT_sum]; omega
theorem ctext_small {s : Bool} {b : List Int} (hl : b.length = 16) (hy : ∀ x ∈ b, Byte x) : (ctextL s b).length ≤ 100 := by
  have h1 := grB_len b
  have h2 := grB_w16 hl hy
  unfold ctextL
  split
  · generalize grB b = gs at *
    split
    · have := hexT_small h2 (by omega); omega
    · have a1 := hexT_small (gs := gs.take (zA gs 8)) (fun x hx => h2 x (List.mem_of_mem_take hx)) (by rw [List.length_take]; omega)
      have a2 := hexT_small (gs := gs.drop (zA gs 8 + zM gs 8)) (fun x hx => h2 x (List.mem_of_mem_drop hx)) (by rw [List.length_drop]; omega)
      rw [List.length_append, List.length_append]
      simp only [List.length_cons, List.length_nil]
      omega
  · have h4 : (adrL false b).length = 4 := adrL_len hl
    have hb : ∀ x ∈ adrL false b, Byte x := fun x hx => hy x (List.mem_of_mem_take hx)
    unfold tenT
    rw [join_length, List.length_map, List.map_map, h4]
    have key : ∀ ls : List Int, (∀ x ∈ ls, Byte x) → (ls.map (List.length ∘ fun x : Int => tenL x.toNat)).sum ≤ 3 * ls.length := by
      intro ls
      induction ls with
      | nil => intro _; exact Nat.le_refl _
      | cons x r ih =>
        intro hq
        have hx := hq x (by simp)
        unfold Byte at hx
        have a1 : (tenL x.toNat).length ≤ 3 := by
          rcases ten_forms (n := x.toNat) (by omega) with ⟨_, e⟩ | ⟨_, _, e⟩ | ⟨_, e⟩ <;> rw [e] <;> simp
        have a2 := ih fun y hy => hq y (List.mem_cons_of_mem _ hy)
        simp only [List.map_cons, List.sum_cons, Function.comp, List.length_cons] at a2 ⊢
        omega
    have := key _ hb
    omega
theorem fourG_may {xs b : List Int} (h : fourG (spn 46 4 xs) = some b) : b.drop 4 = zs 12 := by
  unfold fourG at h
  split at h
  · rename_i h4
    match hs : spn 46 4 xs, h4 with
    | [l0, l1, l2, l3], _ =>
      rw [hs] at h
      have hp := fourF_parts _ _ _ _ h
      have p0 := hp l0 (by simp)
      have p1 := hp l1 (by simp)
      have p2 := hp l2 (by simp)
      have p3 := hp l3 (by simp)
      rw [fourF, if_neg (by omega), fourF, if_neg (by omega), fourF, if_neg (by omega), fourF, if_neg (by omega), fourF] at h
      obtain rfl := Option.some.inj h
      rfl
  · cases h
/-- what is read is an address that may be -/
theorem read_ok {xs : List Int} {s : Bool} {b : List Int} (h : cprsL xs = some (s, b)) : b.length = 16 ∧ (∀ x ∈ b, Byte x) ∧ mayL s b = true := by
  unfold cprsL at h
  cases hf : fourG (spn 46 4 xs) with
  | some c =>
    rw [hf] at h
    have h1 := Option.some.inj h
    obtain ⟨rfl, rfl⟩ := Prod.mk.inj h1
    exact ⟨fourG_len hf, fourG_byte hf, by unfold mayL; rw [fourG_may hf]; simp⟩
  | none =>
    rw [hf] at h
    cases hp : psxL xs with
    | none => rw [hp] at h; cases h
    | some gs =>
      rw [hp] at h
      have h1 := Option.some.inj h
      obtain ⟨rfl, rfl⟩ := Prod.mk.inj h1
      exact ⟨sixB_len _, sixB_byte (len_six hp).2.1, rfl⟩
/-- the address that an address's text is read as -/
def canL (s : Bool) (b : List Int) : List Int := if s then b else b.take 4 ++ zs 12
theorem back_any (s : Bool) {b : List Int} (hl : b.length = 16) (hy : ∀ x ∈ b, Byte x) : cprsL (ctextL s b) = some (s, canL s b) := by
  cases s
  · exact back_four hl hy
  · exact back_six hl hy
theorem can_len (s : Bool) {b : List Int} (hl : b.length = 16) : (canL s b).length = 16 := by
  cases s
  · show (b.take 4 ++ zs 12).length = 16; rw [List.length_append, List.length_take, zs_len, hl]; rfl
  · exact hl
theorem can_may {s : Bool} {b : List Int} (hl : b.length = 16) (h : mayL s b = true) : canL s b = b := by
  cases s
  · unfold mayL at h
    rw [Bool.false_or, decide_eq_true_eq] at h
    exact may_four hl h
  · rfl
theorem can_bytes (s : Bool) {b : List Int} (hl : b.length = 16) : adrL s (canL s b) = adrL s b := by
  cases s
  · show (b.take 4 ++ zs 12).take 4 = b.take 4
    rw [List.take_append_of_le_length (by rw [List.length_take]; omega), List.take_take]; rfl
  · rfl
end Go.Proofs.YtmkekdmkefkfiaaDoor.adC
