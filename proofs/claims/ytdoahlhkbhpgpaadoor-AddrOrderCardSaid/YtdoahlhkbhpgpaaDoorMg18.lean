/-
  1 texts of a proof, joined.
-/
import Derived.Test.YtdoahlhkbhpgpaaDoorMg14
import Derived.Test.YtdoahlhkbhpgpaaDoorMg17

namespace Go.Proofs.YtdoahlhkbhpgpaaDoor.adC
open Go.ChangeShapes Go.WideShapes Go.ChangeAt Go.RowKit
open Go.Proofs.YtdoahlhkbhpgpaaDoor.memC Go.Proofs.YtdoahlhkbhpgpaaDoor.genC Go.Proofs.YtdoahlhkbhpgpaaDoor.butC Go.Proofs.YtdoahlhkbhpgpaaDoor.freeC Go.Proofs.YtdoahlhkbhpgpaaDoor.txC
set_option linter.unusedVariables false
theorem seq_run {P : Program} {o : Oper} {a : Act} {w : World} {T : TypeId} {s x : Operand} {S S' : ByteArray} {R : TypeId} {q : Bool} (ho : o.op = .binOp .eql T s x R) (hs : a.eval s = .string S) (hx : a.eval x = .string S') (hq : (S.toList == S'.toList) = q) : (execOp a.eval o).run P w = .ok (.value (.bool q)) w := by
  unfold execOp
  rw [ho]
  simp only [hs, hx]
  go_simp
theorem seq_self {P : Program} {o : Oper} {a : Act} {w : World} {T : TypeId} {s x : Operand} {S : ByteArray} {R : TypeId} (ho : o.op = .binOp .eql T s x R) (hs : a.eval s = .string S) (hx : a.eval x = .string S) : (execOp a.eval o).run P w = .ok (.value (.bool true)) w :=
  seq_run ho hs hx (by simp)
def kp : List Int := [50, 48, 48, 49, 58, 48, 100, 98, 56, 58, 58, 49, 58, 48, 58, 48, 58, 49]
def kb : List Int := [32, 1, 13, 184, 0, 0, 0, 0, 0, 1, 0, 0, 0, 0, 0, 1]
def kt : List Int := [50, 48, 48, 49, 58, 100, 98, 56, 58, 58, 49, 58, 48, 58, 48, 58, 49]
theorem known_read : cprsL kp = some (true, kb) := by
  have h1 : fourG (spn 46 4 kp) = none := by decide +kernel
  have h2 : psxL kp = some [8193, 3512, 0, 0, 1, 0, 0, 1] := by decide +kernel
  unfold cprsL
  rw [h1, h2]
  rfl
theorem hex_8193 : hexL 8193 = [50, 48, 48, 49] := by
  rw [hexL_high (by decide), show 8193 / 16 = 512 from rfl, show 8193 % 16 = 1 from rfl, hexL_high (n := 512) (by decide), show 512 / 16 = 32 from rfl, show 512 % 16 = 0 from rfl, hexL_high (n := 32) (by decide), show 32 / 16 = 2 from rfl, show 32 % 16 = 0 from rfl, hexL_low (n := 2) (by decide), hexL_low (n := 1) (by decide), hexL_low (n := 0) (by decide)]
  rfl
theorem hex_3512 : hexL 3512 = [100, 98, 56] := by
  rw [hexL_high (by decide), show 3512 / 16 = 219 from rfl, show 3512 % 16 = 8 from rfl, hexL_high (n := 219) (by decide), show 219 / 16 = 13 from rfl, show 219 % 16 = 11 from rfl, hexL_low (n := 13) (by decide), hexL_low (n := 11) (by decide), hexL_low (n := 8) (by decide)]
  rfl
theorem known_text : ctextL true kb = kt := by
  have h1 : zM (grB kb) 8 = 2 := by decide +kernel
  have h2 : zA (grB kb) 8 = 2 := by decide +kernel
  have h3 : (grB kb).take 2 = [8193, 3512] := by decide +kernel
  have h4 : (grB kb).drop (2 + 2) = [1, 0, 0, 1] := by decide +kernel
  unfold ctextL
  rw [if_pos rfl, h1, h2, if_neg (by decide), h3, h4]
  unfold hexT
  simp only [List.map_cons, List.map_nil]
  rw [show (8193 : Int).toNat = 8193 from rfl, show (3512 : Int).toNat = 3512 from rfl, show (1 : Int).toNat = 1 from rfl, show (0 : Int).toNat = 0 from rfl, hex_8193, hex_3512, hexL_low (n := 1) (by decide), hexL_low (n := 0) (by decide)]
  rfl
def k4 : List Int := [49, 48, 46, 48, 46, 48, 46, 49]
theorem known_four : ctextL false (fourB 10 0 0 1) = k4 := by
  have h : adrL false (fourB 10 0 0 1) = [10, 0, 0, 1] := rfl
  unfold ctextL
  rw [if_neg (by decide), h]
  unfold tenT
  simp only [List.map_cons, List.map_nil]
  rw [show (10 : Int).toNat = 10 from rfl, show (1 : Int).toNat = 1 from rfl, show (0 : Int).toNat = 0 from rfl, tenL_high (n := 10) (by decide), show 10 / 10 = 1 from rfl, show 10 % 10 = 0 from rfl, tenL_low (n := 1) (by decide), tenL_low (n := 0) (by decide)]
  rfl
theorem byte_of_all {b : List Int} (h : b.all (fun x => decide (0 ≤ x ∧ x ≤ 255)) = true) : ∀ x ∈ b, Byte x := fun x hx => by
  have h1 := List.all_eq_true.1 h x hx
  have h2 : 0 ≤ x ∧ x ≤ 255 := of_decide_eq_true h1
  exact h2
theorem kp_byte : ∀ x ∈ kp, Byte x := byte_of_all (by decide +kernel)
theorem kb_byte : ∀ x ∈ kb, Byte x := byte_of_all (by decide +kernel)
theorem kf_byte : ∀ x ∈ fourB 10 0 0 1, Byte x := byte_of_all (by decide +kernel)
theorem kb_len : kb.length = 16 := rfl
theorem S1 : (⟨#[50, 48, 48, 49, 58, 48, 100, 98, 56, 58, 58, 49, 58, 48, 58, 48, 58, 49]⟩ : ByteArray) = strOfNums kp := by kernel_rfl
theorem S2 : (⟨#[50, 48, 48, 49, 58, 100, 98, 56, 58, 58, 49, 58, 48, 58, 48, 58, 49]⟩ : ByteArray) = strOfNums kt := by kernel_rfl
theorem S3 : (⟨#[49, 48, 46, 48, 46, 48, 46, 49]⟩ : ByteArray) = strOfNums k4 := by kernel_rfl
theorem known1 (w' : World) (h : Gb w') (S : ByteArray) (hS : S = strOfNums kp) (T : Array Value) (hT : T = adrV true kb) : Calls Tryd.prog 10 #[.string S] w' fun e w'' => e = .returned (.tuple #[.agg T, .int .i64 0]) ∧ Below w'.heap.size w' w'' := by
  have h1 := cparse_any kp w' h kp_byte (by decide)
  rw [known_read, ← hS] at h1
  unfold PrsRet at h1
  simp only at h1
  rw [← hT] at h1
  exact h1
theorem known2 (w' : World) (h : Gb w') (S : ByteArray) (hS : S = strOfNums kt) : Calls Tryd.prog 11 #[.agg (adrV true kb)] w' (Ret w' (.string S)) := by
  have h1 := ctext_any true kb w' h kb_len kb_byte
  rw [known_text, ← hS] at h1
  exact h1
theorem known3 (w' : World) (h : Gb w') (S : ByteArray) (hS : S = strOfNums k4) : Calls Tryd.prog 11 #[.agg (adrV false (fourB 10 0 0 1))] w' (Ret w' (.string S)) := by
  have h1 := ctext_any false (fourB 10 0 0 1) w' h (fourB_len _ _ _ _) kf_byte
  rw [known_four, ← hS] at h1
  exact h1
set_option maxRecDepth 100000 in
set_option maxHeartbeats 1000000 in
theorem alive_any (w : World) (hg : Gb w) : Calls Tryd.prog 6 #[] w (Ret w (.bool true)) := by
  have hzv := zeroAdr
  have HB_w := Lib.hid (Below.refl w.heap.size w)
  have HG_w := Lib.hid hg
  have s1 := S1; have s2 := S2; have s3 := S3
  generalize hX : adrV true kb = TX at *
  have PC := Lib.hid (fun w' (h : Gb w') => known1 w' h _ s1 TX hX.symm)
  have TC := Lib.hid (fun w' (h : Gb w') => known2 w' h _ s2)
  have TD := Lib.hid (fun w' (h : Gb w') => known3 w' h _ s3)
  rw [hX] at TC
  have FC := Lib.hid (fun w' => cfour_any 10 0 0 1 w')
  have U0 := Lib.hid (And.intro (adr_info true kb_len) (And.intro (z_size true kb_len) (adrV_one true kb)))
  rw [hX] at U0
  clear s1 s2 s3 hg hX
  generalize adrV false (fourB 10 0 0 1) = TF at *
  generalize zAdr = Z at *
  go_enter Tryd.func6, Tryd.ntmps6
  go_upto_region 2 with (first
    | (go_at_call 10; (refine (PC.out w HG_w.out).mono ?_); rintro e v1 ⟨rfl, BB⟩
       have HB_v1 := Lib.hid (HB_w.out.trans (BB.mono HB_w.out.size))
       have HN_v1 := Lib.hid (show (v1.alloc (.cells Z 24)).heap[v1.heap.size]? = some (.cells Z 24 (0, 0)) from heap_alloc_new _ _)
       have HG_v1 := Lib.hid (HG_w.out.below BB)
       clear BB)
    | (refine wpList_store_row rfl 24 (.tmp 1) (.tmp 5) rfl v1.heap.size TX rfl rfl _ _ HN_v1.out U0.out.1 U0.out.2.1 U0.out.2.2 ?_))
  rw [World.setRow_alloc_new]
  have HB_W1 := Lib.hid (show Below w.heap.size w (v1.alloc (.cells TX 24)) from HB_v1.out.trans ((alloc_below _ _).mono HB_v1.out.size))
  have RX_W1 := Lib.hid (show (v1.alloc (.cells TX 24)).heap[v1.heap.size]? = some (.cells TX 24 (0, 0)) from heap_alloc_new _ _)
  have HG_W1 := Lib.hid (HG_v1.out.below (alloc_below v1 (.cells TX 24)))
  clear HB_v1 HN_v1 HG_v1
  generalize v1.heap.size = g1 at *
  generalize v1.alloc (.cells TX 24) = W1 at *
  have T1 := Lib.hid (TC.out W1 HG_W1.out)
  go_wp2_with (first
    | (refine wpList_runG (by rfl) _ (seq_self (S := ⟨#[50, 48, 48, 49, 58, 100, 98, 56, 58, 58, 49, 58, 48, 58, 48, 58, 49]⟩) rfl (by rfl) (by rfl)) ?_)
    | (refine wpList_runG (by rfl) _ (seq_self (S := ⟨#[49, 48, 46, 48, 46, 48, 46, 49]⟩) rfl (by rfl) (by rfl)) ?_)
    | (refine wpList_load_row rfl 24 (.tmp 1) rfl g1 rfl _ _ _ _ RX_W1.out Tryd.underlying24 rfl U0.out.1 ?_)
    | (go_at_call 11; (with_reducible refine T1.out.mono ?_); rintro e w3 ⟨rfl, B3⟩
       have HB3 := Lib.hid (HB_W1.out.trans (B3.mono HB_W1.out.size))
       have HG3 := Lib.hid (HG_W1.out.below B3)
       clear B3)
    | (go_at_call 12; (refine (FC.out _).mono ?_); rintro e w4 ⟨rfl, B4⟩
       have HB4 := Lib.hid (HB3.out.trans (B4.mono HB3.out.size))
       have HG4 := Lib.hid (HG3.out.below B4)
       clear B4)
    | (go_at_call 11; (with_reducible refine (TD.out w4 HG4.out).mono ?_); rintro e w5 ⟨rfl, B5⟩
       have HB5 := Lib.hid (HB4.out.trans (B5.mono HB4.out.size))
       clear B5))
  go_ret
  exact ⟨rfl, HB5.out⟩
end Go.Proofs.YtdoahlhkbhpgpaaDoor.adC
