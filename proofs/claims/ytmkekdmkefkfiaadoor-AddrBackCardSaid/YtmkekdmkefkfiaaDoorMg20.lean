/-
  4 texts of a proof, joined.
-/
import Derived.Test.YtmkekdmkefkfiaaDoorMg16
import Derived.Test.YtmkekdmkefkfiaaDoorMg19

/-
  The statements' probe: a text read and written, four bytes written.
-/
namespace Go.Proofs.YtmkekdmkefkfiaaDoor.adC
open Go.ChangeShapes Go.WideShapes Go.ChangeAt Go.RowKit
open Go.Proofs.YtmkekdmkefkfiaaDoor.memC Go.Proofs.YtmkekdmkefkfiaaDoor.genC Go.Proofs.YtmkekdmkefkfiaaDoor.butC Go.Proofs.YtmkekdmkefkfiaaDoor.freeC Go.Proofs.YtmkekdmkefkfiaaDoor.txC
set_option linter.unusedVariables false
theorem PrsRet.o {w w' : World} {o : Option (Bool × List Int)} {e : Ending} (h : PrsRet w o e w') : ORet 3 w o e w' := by
  obtain ⟨h1, h2⟩ := h
  cases o with
  | none => exact ⟨h1, h2⟩
  | some x => exact ⟨h1, h2⟩
theorem seq_run {P : Program} {o : Oper} {a : Act} {w : World} {T : TypeId} {s x : Operand} {S S' : ByteArray} {R : TypeId} {q : Bool} (ho : o.op = .binOp .eql T s x R) (hs : a.eval s = .string S) (hx : a.eval x = .string S') (hq : (S.toList == S'.toList) = q) : (execOp a.eval o).run P w = .ok (.value (.bool q)) w := by
  unfold execOp
  rw [ho]
  simp only [hs, hx]
  go_simp
theorem seq_self {P : Program} {o : Oper} {a : Act} {w : World} {T : TypeId} {s x : Operand} {S : ByteArray} {R : TypeId} (ho : o.op = .binOp .eql T s x R) (hs : a.eval s = .string S) (hx : a.eval x = .string S) : (execOp a.eval o).run P w = .ok (.value (.bool true)) w :=
  seq_run ho hs hx (by simp)
def kp : List Int := [50, 48, 48, 49, 58, 48, 100, 98, 56, 58, 58, 49, 58, 48, 58, 48, 58, 49]
def kb : List Int := [32, 1, 13, 184, 0, 0, 0, 0, 0, 1, 0, 0, 0, 0, 0, 1]
def kt : List Int := [50, 48, 48, 49, 58, 100, 98, 56, 58, 58, 49, 58, 48, 58, 48, 58, 49]
theorem known_read : cprsL kp = some (true, kb) := by
  have h1 : fourG (spn 46 4 kp) = none := by decide +kernel
  have h2 : psxL kp = some [8193, 3512, 0, 0, 1, 0, 0, 1] := by decide +kernel
  unfold cprsL
  rw [h1, h2]
  rfl
theorem hex1 (n : Nat) (h : n < 16) : hexL n = [hexD (n : Int)] := hexL_low h
theorem hex_8193 : hexL 8193 = [50, 48, 48, 49] := by
  rw [hexL_high (by decide), show 8193 / 16 = 512 from rfl, show 8193 % 16 = 1 from rfl, hexL_high (n := 512) (by decide), show 512 / 16 = 32 from rfl, show 512 % 16 = 0 from rfl, hexL_high (n := 32) (by decide), show 32 / 16 = 2 from rfl, show 32 % 16 = 0 from rfl, hexL_low (n := 2) (by decide), hexL_low (n := 1) (by decide), hexL_low (n := 0) (by decide)]
  rfl
theorem hex_3512 : hexL 3512 = [100, 98, 56] := by
  rw [hexL_high (by decide), show 3512 / 16 = 219 from rfl, show 3512 % 16 = 8 from rfl, hexL_high (n := 219) (by decide), show 219 / 16 = 13 from rfl, show 219 % 16 = 11 from rfl, hexL_low (n := 13) (by decide), hexL_low (n := 11) (by decide), hexL_low (n := 8) (by decide)]
  rfl
theorem known_text : ctextL true kb = kt := by
  have h1 : zM (grB kb) 8 = 2 := by decide +kernel
  have h2 : zA (grB kb) 8 = 2 := by decide +kernel
  have h3 : (grB kb).take 2 = [8193, 3512] := by decide +kernel
  have h4 : (grB kb).drop (2 + 2) = [1, 0, 0, 1] := by decide +kernel
  unfold ctextL
  rw [if_pos rfl, h1, h2, if_neg (by decide), h3, h4]
  unfold hexT
  simp only [List.map_cons, List.map_nil]
  rw [show (8193 : Int).toNat = 8193 from rfl, show (3512 : Int).toNat = 3512 from rfl, show (1 : Int).toNat = 1 from rfl, show (0 : Int).toNat = 0 from rfl, hex_8193, hex_3512, hexL_low (n := 1) (by decide), hexL_low (n := 0) (by decide)]
  rfl
def k4 : List Int := [49, 48, 46, 48, 46, 48, 46, 49]
theorem known_four : ctextL false (fourB 10 0 0 1) = k4 := by
  have h : adrL false (fourB 10 0 0 1) = [10, 0, 0, 1] := rfl
  unfold ctextL
  rw [if_neg (by decide), h]
  unfold tenT
  simp only [List.map_cons, List.map_nil]
  rw [show (10 : Int).toNat = 10 from rfl, show (1 : Int).toNat = 1 from rfl, show (0 : Int).toNat = 0 from rfl, tenL_high (n := 10) (by decide), show 10 / 10 = 1 from rfl, show 10 % 10 = 0 from rfl, tenL_low (n := 1) (by decide), tenL_low (n := 0) (by decide)]
  rfl
theorem byte_of_all {b : List Int} (h : b.all (fun x => decide (0 ≤ x ∧ x ≤ 255)) = true) : ∀ x ∈ b, Byte x := fun x hx => by
  have h1 := List.all_eq_true.1 h x hx
  have h2 : 0 ≤ x ∧ x ≤ 255 := of_decide_eq_true h1
  exact h2
theorem kp_byte : ∀ x ∈ kp, Byte x := byte_of_all (by decide +kernel)
theorem kb_byte : ∀ x ∈ kb, Byte x := byte_of_all (by decide +kernel)
theorem kf_byte : ∀ x ∈ fourB 10 0 0 1, Byte x := byte_of_all (by decide +kernel)
theorem kb_len : kb.length = 16 := rfl
theorem S1 : (⟨#[50, 48, 48, 49, 58, 48, 100, 98, 56, 58, 58, 49, 58, 48, 58, 48, 58, 49]⟩ : ByteArray) = strOfNums kp := by kernel_rfl
theorem S2 : (⟨#[50, 48, 48, 49, 58, 100, 98, 56, 58, 58, 49, 58, 48, 58, 48, 58, 49]⟩ : ByteArray) = strOfNums kt := by kernel_rfl
theorem S3 : (⟨#[49, 48, 46, 48, 46, 48, 46, 49]⟩ : ByteArray) = strOfNums k4 := by kernel_rfl
theorem known1 (w' : World) (h : Gb w') (S : ByteArray) (hS : S = strOfNums kp) (T : Array Value) (hT : T = adrV true kb) : Calls Tryd.prog 17 #[.string S] w' fun e w'' => e = .returned (.tuple #[.agg T, .int .i64 0]) ∧ Below w'.heap.size w' w'' := by
  have h1 := cparse_any kp w' h kp_byte (by decide)
  rw [known_read, ← hS] at h1
  unfold PrsRet at h1
  simp only at h1
  rw [← hT] at h1
  exact h1
theorem known2 (w' : World) (h : Gb w') (S : ByteArray) (hS : S = strOfNums kt) : Calls Tryd.prog 19 #[.agg (adrV true kb)] w' (Ret w' (.string S)) := by
  have h1 := ctext_any true kb w' h kb_len kb_byte
  rw [known_text, ← hS] at h1
  exact h1
theorem known3 (w' : World) (h : Gb w') (S : ByteArray) (hS : S = strOfNums k4) : Calls Tryd.prog 19 #[.agg (adrV false (fourB 10 0 0 1))] w' (Ret w' (.string S)) := by
  have h1 := ctext_any false (fourB 10 0 0 1) w' h (fourB_len _ _ _ _) kf_byte
  rw [known_four, ← hS] at h1
  exact h1
set_option maxRecDepth 100000 in
set_option maxHeartbeats 1000000 in
theorem alive_any (w : World) (hg : Gb w) : Calls Tryd.prog 7 #[] w (Ret w (.bool true)) := by
  have hzv := zeroAdr
  have HB_w := Lib.hid (Below.refl w.heap.size w)
  have HG_w := Lib.hid hg
  have s1 := S1; have s2 := S2; have s3 := S3
  generalize hX : adrV true kb = TX at *
  have PC := Lib.hid (fun w' (h : Gb w') => known1 w' h _ s1 TX hX.symm)
  have TC := Lib.hid (fun w' (h : Gb w') => known2 w' h _ s2)
  have TD := Lib.hid (fun w' (h : Gb w') => known3 w' h _ s3)
  rw [hX] at TC
  have FC := Lib.hid (fun w' => cfour_any 10 0 0 1 w')
  have U0 := Lib.hid (And.intro (adr_info true kb_len) (And.intro (z_size true kb_len) (adrV_one true kb)))
  rw [hX] at U0
  clear s1 s2 s3 hg hX
  generalize adrV false (fourB 10 0 0 1) = TF at *
  generalize zAdr = Z at *
  go_enter Tryd.func7, Tryd.ntmps7
  go_upto_region 2 with (first
    | (go_at_call 17; (refine (PC.out w HG_w.out).mono ?_); rintro e v1 ⟨rfl, BB⟩
       have HB_v1 := Lib.hid (HB_w.out.trans (BB.mono HB_w.out.size))
       have HN_v1 := Lib.hid (show (v1.alloc (.cells Z 24)).heap[v1.heap.size]? = some (.cells Z 24 (0, 0)) from heap_alloc_new _ _)
       have HG_v1 := Lib.hid (HG_w.out.below BB)
       clear BB)
    | (refine wpList_store_row rfl 24 (.tmp 1) (.tmp 5) rfl v1.heap.size TX rfl rfl _ _ HN_v1.out U0.out.1 U0.out.2.1 U0.out.2.2 ?_))
  rw [World.setRow_alloc_new]
  have HB_W1 := Lib.hid (show Below w.heap.size w (v1.alloc (.cells TX 24)) from HB_v1.out.trans ((alloc_below _ _).mono HB_v1.out.size))
  have RX_W1 := Lib.hid (show (v1.alloc (.cells TX 24)).heap[v1.heap.size]? = some (.cells TX 24 (0, 0)) from heap_alloc_new _ _)
  have HG_W1 := Lib.hid (HG_v1.out.below (alloc_below v1 (.cells TX 24)))
  clear HB_v1 HN_v1 HG_v1
  generalize v1.heap.size = g1 at *
  generalize v1.alloc (.cells TX 24) = W1 at *
  have T1 := Lib.hid (TC.out W1 HG_W1.out)
  go_wp2_with (first
    | (refine wpList_runG (by rfl) _ (seq_self (S := ⟨#[50, 48, 48, 49, 58, 100, 98, 56, 58, 58, 49, 58, 48, 58, 48, 58, 49]⟩) rfl (by rfl) (by rfl)) ?_)
    | (refine wpList_runG (by rfl) _ (seq_self (S := ⟨#[49, 48, 46, 48, 46, 48, 46, 49]⟩) rfl (by rfl) (by rfl)) ?_)
    | (refine wpList_load_row rfl 24 (.tmp 1) rfl g1 rfl _ _ _ _ RX_W1.out Tryd.underlying24 rfl U0.out.1 ?_)
    | (go_at_call 19; (with_reducible refine T1.out.mono ?_); rintro e w3 ⟨rfl, B3⟩
       have HB3 := Lib.hid (HB_W1.out.trans (B3.mono HB_W1.out.size))
       have HG3 := Lib.hid (HG_W1.out.below B3)
       clear B3)
    | (go_at_call 12; (refine (FC.out _).mono ?_); rintro e w4 ⟨rfl, B4⟩
       have HB4 := Lib.hid (HB3.out.trans (B4.mono HB3.out.size))
       have HG4 := Lib.hid (HG3.out.below B4)
       clear B4)
    | (go_at_call 19; (with_reducible refine (TD.out w4 HG4.out).mono ?_); rintro e w5 ⟨rfl, B5⟩
       have HB5 := Lib.hid (HB4.out.trans (B5.mono HB4.out.size))
       clear B5))
  go_ret
  exact ⟨rfl, HB5.out⟩
end Go.Proofs.YtmkekdmkefkfiaaDoor.adC

/-
  What follows of masking: what is masked is masked to itself; what lies in a longer prefix lies in a shorter one.
-/
namespace Go.Proofs.YtmkekdmkefkfiaaDoor.adC
open Go.ChangeShapes Go.WideShapes Go.ChangeAt Go.RowKit
open Go.Proofs.YtmkekdmkefkfiaaDoor.memC Go.Proofs.YtmkekdmkefkfiaaDoor.genC
set_option linter.unusedVariables false
theorem mk1_less_all : ∀ k' : Nat, k' < 9 → ∀ k : Nat, k < k' + 1 → ∀ n : Nat, n < 256 → mk1 (mk1 (n : Int) k') k = mk1 n k := by decide +kernel
theorem mk1_less {x : Int} (h : Byte x) {k k' : Nat} (h8 : k' ≤ 8) (hk : k ≤ k') : mk1 (mk1 x k') k = mk1 x k := by
  unfold Byte at h
  have := mk1_less_all k' (by omega) k (by omega) x.toNat (by omega)
  rwa [show ((x.toNat : Nat) : Int) = x by omega] at this
theorem kpN_mono {l l' : Int} (h : l ≤ l') (i : Nat) : kpN l i ≤ kpN l' i := by unfold kpN; omega
theorem ext16 {x y : List Int} (hx : x.length = 16) (hy : y.length = 16) (h : ∀ j, j < 16 → x.getD j 0 = y.getD j 0) : x = y := by
  apply List.ext_getElem?
  intro j
  by_cases hj : j < 16
  · have := h j hj
    rw [List.getD_eq_getElem?_getD, List.getD_eq_getElem?_getD, List.getElem?_eq_getElem (by omega), List.getElem?_eq_getElem (by omega)] at this
    rw [List.getElem?_eq_getElem (by omega), List.getElem?_eq_getElem (by omega)]
    exact congrArg some this
  · rw [List.getElem?_eq_none (by omega), List.getElem?_eq_none (by omega)]
theorem mskL_byte {b : List Int} (hl : b.length = 16) (hy : ∀ x ∈ b, Byte x) (len : Int) : ∀ x ∈ mskL b len, Byte x := by
  have hm := mskL_len len hl
  have ha := fun j hj => mskL_at len hl (j := j) hj
  generalize mskL b len = m at *
  intro x hx
  obtain ⟨i, hi, rfl⟩ := List.getElem_of_mem hx
  have h1 := ha i (by omega)
  rw [List.getD_eq_getElem?_getD, List.getElem?_eq_getElem hi] at h1
  simp only [Option.getD_some] at h1
  rw [h1]
  exact mk1_byte (getD_byte hy (by omega)) _
/-- what is masked at a longer length, masked at a shorter one -/
theorem mskL_less {b : List Int} (hl : b.length = 16) (hy : ∀ x ∈ b, Byte x) {l l' : Int} (h : l ≤ l') : mskL (mskL b l') l = mskL b l := by
  have hm := mskL_len l' hl
  have ha := fun j hj => mskL_at l' hl (j := j) hj
  have hc := fun j hj => mskL_at l hl (j := j) hj
  have hn := mskL_len l hl
  generalize mskL b l' = m at *
  generalize mskL b l = n at *
  have hd := fun j hj => mskL_at l hm (j := j) hj
  have he := mskL_len l hm
  generalize mskL m l = q at *
  refine ext16 he hn fun j hj => ?_
  rw [hd j hj, ha j hj, hc j hj]
  exact mk1_less (getD_byte hy (by omega)) (kpN_le _ _) (kpN_mono h j)
theorem outO_some (x : Bool × List Int) : outO (some x) = x := rfl
theorem maskO_some {s : Bool} {b : List Int} {len : Int} (h0 : ¬ len < 0) (h : ¬ 8 * (adrN s : Int) < len) : maskO s b len = some (s, mskL b len) := by unfold maskO; rw [if_neg (by omega)]
theorem maskO_of {s : Bool} {b : List Int} {len : Int} (h : maskO s b len ≠ none) : ¬ len < 0 ∧ ¬ 8 * (adrN s : Int) < len := by
  unfold maskO at h
  split at h
  · exact absurd rfl h
  · omega
theorem lies_self {s : Bool} {a b : List Int} {len : Int} (h0 : ¬ len < 0) (h : ¬ 8 * (adrN s : Int) < len) (hm : mskL a len = mskL b len) : liesL s a s b len = true := by
  unfold liesL
  rw [maskO_some h0 h, maskO_some h0 h, outO_some, outO_some, hm]
  simp
theorem lies_none {s s' : Bool} {a b : List Int} {len : Int} (h : maskO s a len = none) : liesL s a s' b len = false := by
  unfold liesL
  rw [h]; rfl
/-- what lies in a longer prefix lies in a shorter one -/
theorem lies_less {s s' : Bool} {a b : List Int} {len less : Int} (ha : a.length = 16) (hb : b.length = 16) (ya : ∀ x ∈ a, Byte x) (yb : ∀ x ∈ b, Byte x) (h0 : ¬ len < 0) (h : ¬ 8 * (adrN s : Int) < len)
    (l0 : ¬ less < 0) (l1 : less ≤ len) (hL : liesL s' b s a len = true) : liesL s' b s a less = true := by
  unfold liesL at hL
  rw [Bool.and_eq_true, decide_eq_true_eq] at hL
  obtain ⟨h1, h2, h3⟩ := hL
  have hn : maskO s' b len ≠ none := fun e => by rw [e] at h1; cases h1
  obtain ⟨g0, g1⟩ := maskO_of hn
  rw [maskO_some g0 g1, maskO_some h0 h, outO_some, outO_some] at h2 h3
  have h2' : s' = s := h2
  subst h2'
  have h3' : mskL b len = mskL a len := h3
  refine lies_self l0 (by omega) ?_
  rw [← mskL_less hb yb l1, ← mskL_less ha ya l1, h3']
end Go.Proofs.YtmkekdmkefkfiaaDoor.adC

/-
  The walk of AddrMasked.
-/
namespace Go.Proofs.YtmkekdmkefkfiaaDoor.adC
open Go.ChangeShapes Go.WideShapes Go.ChangeAt Go.RowKit
open Go.Proofs.YtmkekdmkefkfiaaDoor.memC Go.Proofs.YtmkekdmkefkfiaaDoor.genC Go.Proofs.YtmkekdmkefkfiaaDoor.butC Go.Proofs.YtmkekdmkefkfiaaDoor.freeC Go.Proofs.YtmkekdmkefkfiaaDoor.txC
set_option linter.unusedVariables false
theorem neqA_run {P : Program} {fr : Act} {o : Oper} {w : World} {T R : TypeId} {s x : Tmp} {A B : Array Value} {q : Bool} (ho : o.op = .binOp .neq T (.tmp s) (.tmp x) R) (hs : fr.tmps[s]?.getD undef = .agg A) (hx : fr.tmps[x]?.getD undef = .agg B)
    (hq : (Op.equalIn 10000 T (.agg A) (.agg B)).run P w = .ok q w) (hgd : P.eqGuardType P.depth T = false) : (execOp fr.eval o).run P w = .ok (.value (.bool !q)) w := by
  unfold execOp
  rw [ho]
  go_simp
set_option maxRecDepth 100000 in
set_option maxHeartbeats 4000000 in
theorem masked_walk (s s' : Bool) (a b : List Int) (l m : Int) (w : World) (hg : Gb w) (ha : a.length = 16) (hb : b.length = 16) (ya : ∀ x ∈ a, Byte x) (yb : ∀ x ∈ b, Byte x) :
    Calls Tryd.prog 6 #[.agg (adrV s a), .agg (adrV s' b), .agg #[.int .i64 l, .int .i64 m]] w (Ret w (.bool true)) := by
  have hzv := zeroAdr
  have e1 : (w.alloc (.cells (adrV s a) 24)).heap.size = w.heap.size + 1 := alloc_size _ _
  have e2 : ((w.alloc (.cells (adrV s a) 24)).alloc (.cells (adrV s' b) 24)).heap.size = w.heap.size + 1 + 1 := by rw [alloc_size, e1]
  obtain ⟨W, hW⟩ : ∃ W, W = ((w.alloc (.cells (adrV s a) 24)).alloc (.cells (adrV s' b) 24)).alloc (.cells #[.int .i64 l, .int .i64 m] 43) := ⟨_, rfl⟩
  have R0 := Lib.hid (show W.heap[w.heap.size]? = some (.cells (adrV s a) 24 (0, 0)) by rw [hW, Below.block (alloc_below _ _) _ (by rw [e2]; omega), Below.block (alloc_below _ _) _ (by rw [e1]; omega)]; exact heap_alloc_new w _)
  have R1 := Lib.hid (show W.heap[w.heap.size + 1]? = some (.cells (adrV s' b) 24 (0, 0)) by rw [hW, Below.block (alloc_below _ _) _ (by rw [e2]; omega), ← e1]; exact heap_alloc_new _ _)
  have k0 : W.cell? ⟨w.heap.size + 1 + 1, 0, none⟩ = some (.int .i64 l) := by rw [hW, ← e2, cell_new]; rfl
  have k1 : W.cell? ⟨w.heap.size + 1 + 1, 1, none⟩ = some (.int .i64 m) := by rw [hW, ← e2, cell_new]; rfl
  have BW := Lib.hid (show Below w.heap.size w W by rw [hW]; exact (((Below.refl _ _).alloc (Nat.le_refl _) _).alloc (by simp) _).alloc (by rw [e2]; omega) _)
  have HG := Lib.hid hg
  have LA := Lib.hid ha; have LB := Lib.hid hb; have YA := Lib.hid ya; have YB := Lib.hid yb
  have I0 := Lib.hid (adr_info s ha)
  have I1 := Lib.hid (adr_info s' hb)
  have M0 := Lib.hid (fun w' => (mask_any s a l w' ha ya).mono fun e w'' h => h.two)
  have CAe := Lib.hid (rfl : adrV s a = adrV s a)
  obtain ⟨CA, hCA⟩ : ∃ C, C = adrV s a := ⟨_, rfl⟩
  obtain ⟨CB, hCB⟩ : ∃ C, C = adrV s' b := ⟨_, rfl⟩
  have HCA := Lib.hid hCA; have HCB := Lib.hid hCB
  rw [← hCA] at R0 I0 M0 hW ⊢
  rw [← hCB] at R1 I1 hW ⊢
  clear hg ha hb ya yb hCA hCB e1 e2 CAe
  go_enter Tryd.func6, Tryd.ntmps6
  go_upto_region 1 with fail
  rw [← hW]
  clear hW
  go_quiet (fail)
  have R0_w0 := Lib.hid (show (W.drewN nq).heap[w.heap.size]? = some (.cells CA 24 (0, 0)) from R0.out)
  have R1_w0 := Lib.hid (show (W.drewN nq).heap[w.heap.size + 1]? = some (.cells CB 24 (0, 0)) from R1.out)
  have HB_w0 := Lib.hid (bel_drewN BW.out nq)
  have HG_w0 := Lib.hid (HG.out.below HB_w0.out)
  clear R0 R1 BW HG k0 k1
  generalize W.drewN nq = w0 at *
  have ZU := Lib.hid (show _ ∧ True ∧ _ from And.intro z_info (And.intro trivial z_one))
  have ZB := Lib.hid built_zero
  have EQZ := Lib.hid (fun w' => (show (Op.equalIn 10000 24 (.agg zAdr) (.agg zAdr)).run Tryd.prog w' = .ok true w' by have h := eqa false false (zs 16) (zs 16) (zs_len 16) (zs_len 16) w'; rw [decide_eq_true (show false = false ∧ zs 16 = zs 16 from ⟨rfl, rfl⟩)] at h; exact h))
  by_cases hM : maskO s a l = none
  · have LN : Hid (∀ w', Calls Tryd.prog 22 #[.agg CA, .agg CA, .int .i64 l] w' (Ret w' (.bool false))) := Lib.hid fun w' => by
      have h := lies_any s s a a l w' LA.out LA.out YA.out YA.out
      rw [lies_none hM, ← HCA.out] at h; exact h
    have N0 : Hid (∀ w', Calls Tryd.prog 21 #[.agg CA, .int .i64 l] w' fun e w'' => e = .returned (.tuple #[.agg zAdr, .int .i64 1]) ∧ Below w'.heap.size w' w'') := Lib.hid fun w' => by
      have h := M0.out w'
      rw [hM] at h; exact h
    generalize zAdr = Z at *
    clear M0 hM
    go_upto_region 3 with (first
      | (refine wpList_load_rowG (by rfl) 24 (.tmp 3) rfl (w.heap.size) rfl _ _ _ _ R0_w0.out Tryd.underlying24 rfl I0.out ?_)
      | (go_at_call 21; (refine (N0.out _).mono ?_); rintro e v1 ⟨rfl, BB⟩
         have HB_v1 := Lib.hid (HB_w0.out.trans (BB.mono HB_w0.out.size))
         have R0_v1 := Lib.hid (show v1.heap[w.heap.size]? = some (.cells CA 24 (0, 0)) by rw [BB.block _ (lt_of_row R0_w0.out)]; exact R0_w0.out)
         have R1_v1 := Lib.hid (show v1.heap[w.heap.size + 1]? = some (.cells CB 24 (0, 0)) by rw [BB.block _ (lt_of_row R1_w0.out)]; exact R1_w0.out)
         have HN_v1 := Lib.hid (show (v1.alloc (.cells Z 24)).heap[v1.heap.size]? = some (.cells Z 24 (0, 0)) from heap_alloc_new _ _)
         have HG_v1 := Lib.hid (HG_w0.out.below BB)
         clear BB)
      | (refine wpList_store_row rfl 24 (.tmp 9) (.tmp 21) rfl v1.heap.size Z rfl rfl _ _ HN_v1.out ZU.out.1 rfl ZU.out.2.2 ?_))
    rw [World.setRow_alloc_new]
    have HB_W1 := Lib.hid (show Below w.heap.size w (v1.alloc (.cells Z 24)) from HB_v1.out.trans ((alloc_below _ _).mono HB_v1.out.size))
    have R0_W1 := Lib.hid (show (v1.alloc (.cells Z 24)).heap[w.heap.size]? = some (.cells CA 24 (0, 0)) by rw [(alloc_below _ _).block _ (lt_of_row R0_v1.out)]; exact R0_v1.out)
    have R1_W1 := Lib.hid (show (v1.alloc (.cells Z 24)).heap[w.heap.size + 1]? = some (.cells CB 24 (0, 0)) by rw [(alloc_below _ _).block _ (lt_of_row R1_v1.out)]; exact R1_v1.out)
    have RX_W1 := Lib.hid (show (v1.alloc (.cells Z 24)).heap[v1.heap.size]? = some (.cells Z 24 (0, 0)) from heap_alloc_new _ _)
    have HG_W1 := Lib.hid (HG_v1.out.below (alloc_below v1 (.cells Z 24)))
    clear HB_v1 HN_v1 R0_v1 R1_v1 HG_v1
    generalize v1.heap.size = g1 at *
    generalize v1.alloc (.cells Z 24) = W1 at *
    go_wp2_with (first
      | (refine wpList_load_rowG (by rfl) 24 (.tmp 9) rfl (g1) rfl _ _ _ _ RX_W1.out Tryd.underlying24 rfl ZU.out.1 ?_)
      | (refine wpList_load_rowG (by rfl) 24 (.tmp 3) rfl (w.heap.size) rfl _ _ _ _ R0_W1.out Tryd.underlying24 rfl I0.out ?_)
      | (refine wpList_zero rfl 24 rfl Z ZB.out ?_)
      | (refine wpList_runG (by rfl) _ (eq_run rfl (by rfl) (by rfl) (EQZ.out _) guard_addr) ?_)
      | (go_at_call 22; (with_reducible refine (LN.out _).mono ?_); rintro e w5 ⟨rfl, BB⟩
         have HB_w5 := Lib.hid (HB_W1.out.trans (BB.mono HB_W1.out.size))
         have R0_w5 := Lib.hid (show w5.heap[w.heap.size]? = some (.cells CA 24 (0, 0)) by rw [BB.block _ (lt_of_row R0_W1.out)]; exact R0_W1.out)
         have R1_w5 := Lib.hid (show w5.heap[w.heap.size + 1]? = some (.cells CB 24 (0, 0)) by rw [BB.block _ (lt_of_row R1_W1.out)]; exact R1_W1.out)
         have RX_w5 := Lib.hid (show w5.heap[g1]? = some (.cells Z 24 (0, 0)) by rw [BB.block _ (lt_of_row RX_W1.out)]; exact RX_W1.out)
         have HG_w5 := Lib.hid (HG_W1.out.below BB)
         clear BB)
      | (go_at_call 7; (refine (alive_any _ HG_w5.out).mono ?_); rintro e w6 ⟨rfl, BB⟩
         have HB_w6 := Lib.hid (HB_w5.out.trans (BB.mono HB_w5.out.size))
         clear BB))
    go_ret
    exact ⟨rfl, HB_w6.out⟩
  · obtain ⟨g0, g1⟩ := maskO_of hM
    have hS : maskO s a l = some (s, mskL a l) := maskO_some g0 g1
    have LX := Lib.hid (mskL_len l LA.out)
    have YX := Lib.hid (mskL_byte LA.out YA.out l)
    have HXX := Lib.hid (mskL_less LA.out YA.out (Int.le_refl l))
    have LL := Lib.hid (fun (m : Int) (l0 : ¬ m < 0) (l1 : m ≤ l) => lies_less (s' := s') (a := a) (b := b) (len := l) (less := m) LA.out LB.out YA.out YB.out g0 g1 l0 l1)
    have HS1 := Lib.hid (show liesL s a s (mskL a l) l = true from lies_self g0 g1 HXX.out.symm)
    have HS2 := Lib.hid (show liesL s (mskL a l) s a l = true from lies_self g0 g1 HXX.out)
    have hX2 : maskO s (mskL a l) l = some (s, mskL (mskL a l) l) := maskO_some g0 g1
    rw [HXX.out] at hX2
    generalize mskL a l = x at *
    obtain ⟨TX, hTX⟩ : ∃ C, C = adrV s x := ⟨_, rfl⟩
    have N0 : Hid (∀ w', Calls Tryd.prog 21 #[.agg CA, .int .i64 l] w' fun e w'' => e = .returned (.tuple #[.agg TX, .int .i64 0]) ∧ Below w'.heap.size w' w'') := Lib.hid fun w' => by
      have h := M0.out w'
      rw [hS] at h; rw [hTX]; exact h
    have N1 : Hid (∀ w', Calls Tryd.prog 21 #[.agg TX, .int .i64 l] w' fun e w'' => e = .returned (.tuple #[.agg TX, .int .i64 0]) ∧ Below w'.heap.size w' w'') := Lib.hid fun w' => by
      have h := (mask_any s x l w' LX.out YX.out).mono fun e w'' h => h.two
      rw [hX2] at h; rw [hTX]; exact h
    have L1 : Hid (∀ w', Calls Tryd.prog 22 #[.agg CA, .agg TX, .int .i64 l] w' (Ret w' (.bool true))) := Lib.hid fun w' => by
      have h := lies_any s s a x l w' LA.out LX.out YA.out YX.out
      rw [HS1.out, ← HCA.out, ← hTX] at h; exact h
    have L2 : Hid (∀ w', Calls Tryd.prog 22 #[.agg TX, .agg CA, .int .i64 l] w' (Ret w' (.bool true))) := Lib.hid fun w' => by
      have h := lies_any s s x a l w' LX.out LA.out YX.out YA.out
      rw [HS2.out, ← HCA.out, ← hTX] at h; exact h
    have L3 : Hid (∀ w' (k : Int), Calls Tryd.prog 22 #[.agg CB, .agg CA, .int .i64 k] w' (Ret w' (.bool (liesL s' b s a k)))) := Lib.hid fun w' k => by
      have h := lies_any s' s b a k w' LB.out LA.out YB.out YA.out
      rw [← HCA.out, ← HCB.out] at h; exact h
    have EQX : Hid (∀ w', (Op.equalIn 10000 24 (.agg TX) (.agg TX)).run Tryd.prog w' = .ok true w') := Lib.hid fun w' => by
      have h := eqa s s x x LX.out LX.out w'
      rw [hTX]; simpa using h
    have U0 := Lib.hid (show _ ∧ _ ∧ _ from And.intro (adr_info s LX.out) (And.intro (z_size s LX.out) (adrV_one s x)))
    rw [← hTX] at U0
    clear M0 hM hS hTX hX2 g0 g1
    generalize zAdr = Z at *
    go_upto_region 3 with (first
      | (refine wpList_load_rowG (by rfl) 24 (.tmp 3) rfl (w.heap.size) rfl _ _ _ _ R0_w0.out Tryd.underlying24 rfl I0.out ?_)
      | (go_at_call 21; (refine (N0.out _).mono ?_); rintro e v1 ⟨rfl, BB⟩
         have HB_v1 := Lib.hid (HB_w0.out.trans (BB.mono HB_w0.out.size))
         have R0_v1 := Lib.hid (show v1.heap[w.heap.size]? = some (.cells CA 24 (0, 0)) by rw [BB.block _ (lt_of_row R0_w0.out)]; exact R0_w0.out)
         have R1_v1 := Lib.hid (show v1.heap[w.heap.size + 1]? = some (.cells CB 24 (0, 0)) by rw [BB.block _ (lt_of_row R1_w0.out)]; exact R1_w0.out)
         have HN_v1 := Lib.hid (show (v1.alloc (.cells Z 24)).heap[v1.heap.size]? = some (.cells Z 24 (0, 0)) from heap_alloc_new _ _)
         have HG_v1 := Lib.hid (HG_w0.out.below BB)
         clear BB)
      | (refine wpList_store_row rfl 24 (.tmp 9) (.tmp 21) rfl v1.heap.size TX rfl rfl _ _ HN_v1.out U0.out.1 U0.out.2.1 U0.out.2.2 ?_))
    rw [World.setRow_alloc_new]
    have HB_W1 := Lib.hid (show Below w.heap.size w (v1.alloc (.cells TX 24)) from HB_v1.out.trans ((alloc_below _ _).mono HB_v1.out.size))
    have R0_W1 := Lib.hid (show (v1.alloc (.cells TX 24)).heap[w.heap.size]? = some (.cells CA 24 (0, 0)) by rw [(alloc_below _ _).block _ (lt_of_row R0_v1.out)]; exact R0_v1.out)
    have R1_W1 := Lib.hid (show (v1.alloc (.cells TX 24)).heap[w.heap.size + 1]? = some (.cells CB 24 (0, 0)) by rw [(alloc_below _ _).block _ (lt_of_row R1_v1.out)]; exact R1_v1.out)
    have RX_W1 := Lib.hid (show (v1.alloc (.cells TX 24)).heap[v1.heap.size]? = some (.cells TX 24 (0, 0)) from heap_alloc_new _ _)
    have HG_W1 := Lib.hid (HG_v1.out.below (alloc_below v1 (.cells TX 24)))
    clear HB_v1 HN_v1 R0_v1 R1_v1 HG_v1
    generalize v1.heap.size = g1 at *
    generalize v1.alloc (.cells TX 24) = W1 at *
    go_upto_region 6 with (first
      | (refine wpList_load_rowG (by rfl) 24 (.tmp 9) rfl (g1) rfl _ _ _ _ RX_W1.out Tryd.underlying24 rfl U0.out.1 ?_)
      | (go_at_call 21; (refine (N1.out _).mono ?_); rintro e v2 ⟨rfl, BB⟩
         have HB_v2 := Lib.hid (HB_W1.out.trans (BB.mono HB_W1.out.size))
         have R0_v2 := Lib.hid (show v2.heap[w.heap.size]? = some (.cells CA 24 (0, 0)) by rw [BB.block _ (lt_of_row R0_W1.out)]; exact R0_W1.out)
         have R1_v2 := Lib.hid (show v2.heap[w.heap.size + 1]? = some (.cells CB 24 (0, 0)) by rw [BB.block _ (lt_of_row R1_W1.out)]; exact R1_W1.out)
         have RX_v2 := Lib.hid (show v2.heap[g1]? = some (.cells TX 24 (0, 0)) by rw [BB.block _ (lt_of_row RX_W1.out)]; exact RX_W1.out)
         have HN_v2 := Lib.hid (show (v2.alloc (.cells Z 24)).heap[v2.heap.size]? = some (.cells Z 24 (0, 0)) from heap_alloc_new _ _)
         have HG_v2 := Lib.hid (HG_W1.out.below BB)
         clear BB)
      | (refine wpList_store_row rfl 24 (.tmp 11) (.tmp 42) rfl v2.heap.size TX rfl rfl _ _ HN_v2.out U0.out.1 U0.out.2.1 U0.out.2.2 ?_))
    rw [World.setRow_alloc_new]
    have HB_W2 := Lib.hid (show Below w.heap.size w (v2.alloc (.cells TX 24)) from HB_v2.out.trans ((alloc_below _ _).mono HB_v2.out.size))
    have R0_W2 := Lib.hid (show (v2.alloc (.cells TX 24)).heap[w.heap.size]? = some (.cells CA 24 (0, 0)) by rw [(alloc_below _ _).block _ (lt_of_row R0_v2.out)]; exact R0_v2.out)
    have R1_W2 := Lib.hid (show (v2.alloc (.cells TX 24)).heap[w.heap.size + 1]? = some (.cells CB 24 (0, 0)) by rw [(alloc_below _ _).block _ (lt_of_row R1_v2.out)]; exact R1_v2.out)
    have RX_W2 := Lib.hid (show (v2.alloc (.cells TX 24)).heap[g1]? = some (.cells TX 24 (0, 0)) by rw [(alloc_below _ _).block _ (lt_of_row RX_v2.out)]; exact RX_v2.out)
    have RY_W2 := Lib.hid (show (v2.alloc (.cells TX 24)).heap[v2.heap.size]? = some (.cells TX 24 (0, 0)) from heap_alloc_new _ _)
    have HG_W2 := Lib.hid (HG_v2.out.below (alloc_below v2 (.cells TX 24)))
    clear HB_v2 HN_v2 R0_v2 R1_v2 RX_v2 HG_v2
    generalize v2.heap.size = g2 at *
    generalize v2.alloc (.cells TX 24) = W2 at *
    go_upto_region 8 with (first
      | (refine wpList_load_rowG (by rfl) 24 (.tmp 9) rfl (g1) rfl _ _ _ _ RX_w6.out Tryd.underlying24 rfl U0.out.1 ?_)
      | (refine wpList_load_rowG (by rfl) 24 (.tmp 11) rfl (g2) rfl _ _ _ _ RY_w6.out Tryd.underlying24 rfl U0.out.1 ?_)
      | (refine wpList_load_rowG (by rfl) 24 (.tmp 9) rfl (g1) rfl _ _ _ _ RX_w5.out Tryd.underlying24 rfl U0.out.1 ?_)
      | (refine wpList_load_rowG (by rfl) 24 (.tmp 3) rfl (w.heap.size) rfl _ _ _ _ R0_w5.out Tryd.underlying24 rfl I0.out ?_)
      | (refine wpList_load_rowG (by rfl) 24 (.tmp 3) rfl (w.heap.size) rfl _ _ _ _ R0_W2.out Tryd.underlying24 rfl I0.out ?_)
      | (refine wpList_load_rowG (by rfl) 24 (.tmp 9) rfl (g1) rfl _ _ _ _ RX_W2.out Tryd.underlying24 rfl U0.out.1 ?_)
      | (go_at_call 22; (with_reducible refine (L1.out _).mono ?_); rintro e w5 ⟨rfl, BB⟩
         have HB_w5 := Lib.hid (HB_W2.out.trans (BB.mono HB_W2.out.size))
         have R0_w5 := Lib.hid (show w5.heap[w.heap.size]? = some (.cells CA 24 (0, 0)) by rw [BB.block _ (lt_of_row R0_W2.out)]; exact R0_W2.out)
         have R1_w5 := Lib.hid (show w5.heap[w.heap.size + 1]? = some (.cells CB 24 (0, 0)) by rw [BB.block _ (lt_of_row R1_W2.out)]; exact R1_W2.out)
         have RX_w5 := Lib.hid (show w5.heap[g1]? = some (.cells TX 24 (0, 0)) by rw [BB.block _ (lt_of_row RX_W2.out)]; exact RX_W2.out)
         have RY_w5 := Lib.hid (show w5.heap[g2]? = some (.cells TX 24 (0, 0)) by rw [BB.block _ (lt_of_row RY_W2.out)]; exact RY_W2.out)
         have HG_w5 := Lib.hid (HG_W2.out.below BB)
         clear BB)
      | (go_at_call 22; (with_reducible refine (L2.out _).mono ?_); rintro e w6 ⟨rfl, BB⟩
         have HB_w6 := Lib.hid (HB_w5.out.trans (BB.mono HB_w5.out.size))
         have R0_w6 := Lib.hid (show w6.heap[w.heap.size]? = some (.cells CA 24 (0, 0)) by rw [BB.block _ (lt_of_row R0_w5.out)]; exact R0_w5.out)
         have R1_w6 := Lib.hid (show w6.heap[w.heap.size + 1]? = some (.cells CB 24 (0, 0)) by rw [BB.block _ (lt_of_row R1_w5.out)]; exact R1_w5.out)
         have RX_w6 := Lib.hid (show w6.heap[g1]? = some (.cells TX 24 (0, 0)) by rw [BB.block _ (lt_of_row RX_w5.out)]; exact RX_w5.out)
         have RY_w6 := Lib.hid (show w6.heap[g2]? = some (.cells TX 24 (0, 0)) by rw [BB.block _ (lt_of_row RY_w5.out)]; exact RY_w5.out)
         have HG_w6 := Lib.hid (HG_w5.out.below BB)
         clear BB)
      | (refine wpList_runG (by rfl) _ (neqA_run rfl (by rfl) (by rfl) (EQX.out _) guard_addr) ?_))
    by_cases hm0 : m < 0
    · go_wp2_with (first
        | (go_at_call 7; (refine (alive_any _ HG_w6.out).mono ?_); rintro e w9 ⟨rfl, BB⟩
           have HB_w9 := Lib.hid (HB_w6.out.trans (BB.mono HB_w6.out.size))
           clear BB))
      go_ret
      exact ⟨rfl, HB_w9.out⟩
    · by_cases hm1 : l < m
      · go_wp2_with (first
          | (go_at_call 7; (refine (alive_any _ HG_w6.out).mono ?_); rintro e w9 ⟨rfl, BB⟩
             have HB_w9 := Lib.hid (HB_w6.out.trans (BB.mono HB_w6.out.size))
             clear BB))
        go_ret
        exact ⟨rfl, HB_w9.out⟩
      · have HL2 := Lib.hid (LL.out m (by omega) (by omega))
        have L3a := Lib.hid (fun w' => L3.out w' l)
        have L3b := Lib.hid (fun w' => L3.out w' m)
        generalize liesL s' b s a l = q at *
        cases q
        · clear L3b HL2
          go_wp2_with (first
            | (refine wpList_load_rowG (by rfl) 24 (.tmp 4) rfl (w.heap.size + 1) rfl _ _ _ _ R1_w6.out Tryd.underlying24 rfl I1.out ?_)
            | (refine wpList_load_rowG (by rfl) 24 (.tmp 3) rfl (w.heap.size) rfl _ _ _ _ R0_w6.out Tryd.underlying24 rfl I0.out ?_)
            | (go_at_call 22; (with_reducible refine (L3a.out _).mono ?_); rintro e w7 ⟨rfl, BB⟩
               have HB_w7 := Lib.hid (HB_w6.out.trans (BB.mono HB_w6.out.size))
               have R0_w7 := Lib.hid (show w7.heap[w.heap.size]? = some (.cells CA 24 (0, 0)) by rw [BB.block _ (lt_of_row R0_w6.out)]; exact R0_w6.out)
               have R1_w7 := Lib.hid (show w7.heap[w.heap.size + 1]? = some (.cells CB 24 (0, 0)) by rw [BB.block _ (lt_of_row R1_w6.out)]; exact R1_w6.out)
               have RX_w7 := Lib.hid (show w7.heap[g1]? = some (.cells TX 24 (0, 0)) by rw [BB.block _ (lt_of_row RX_w6.out)]; exact RX_w6.out)
               have RY_w7 := Lib.hid (show w7.heap[g2]? = some (.cells TX 24 (0, 0)) by rw [BB.block _ (lt_of_row RY_w6.out)]; exact RY_w6.out)
               have HG_w7 := Lib.hid (HG_w6.out.below BB)
               clear BB)
            | (go_at_call 7; (refine (alive_any _ HG_w7.out).mono ?_); rintro e w9 ⟨rfl, BB⟩
               have HB_w9 := Lib.hid (HB_w7.out.trans (BB.mono HB_w7.out.size))
               clear BB))
          go_ret
          exact ⟨rfl, HB_w9.out⟩
        · rw [HL2.out rfl] at L3b
          go_wp2_with (first
            | (refine wpList_load_rowG (by rfl) 24 (.tmp 3) rfl (w.heap.size) rfl _ _ _ _ R0_w7.out Tryd.underlying24 rfl I0.out ?_)
            | (refine wpList_load_rowG (by rfl) 24 (.tmp 4) rfl (w.heap.size + 1) rfl _ _ _ _ R1_w7.out Tryd.underlying24 rfl I1.out ?_)
            | (refine wpList_load_rowG (by rfl) 24 (.tmp 4) rfl (w.heap.size + 1) rfl _ _ _ _ R1_w6.out Tryd.underlying24 rfl I1.out ?_)
            | (refine wpList_load_rowG (by rfl) 24 (.tmp 3) rfl (w.heap.size) rfl _ _ _ _ R0_w6.out Tryd.underlying24 rfl I0.out ?_)
            | (go_at_call 22; (with_reducible refine (L3a.out _).mono ?_); rintro e w7 ⟨rfl, BB⟩
               have HB_w7 := Lib.hid (HB_w6.out.trans (BB.mono HB_w6.out.size))
               have R0_w7 := Lib.hid (show w7.heap[w.heap.size]? = some (.cells CA 24 (0, 0)) by rw [BB.block _ (lt_of_row R0_w6.out)]; exact R0_w6.out)
               have R1_w7 := Lib.hid (show w7.heap[w.heap.size + 1]? = some (.cells CB 24 (0, 0)) by rw [BB.block _ (lt_of_row R1_w6.out)]; exact R1_w6.out)
               have RX_w7 := Lib.hid (show w7.heap[g1]? = some (.cells TX 24 (0, 0)) by rw [BB.block _ (lt_of_row RX_w6.out)]; exact RX_w6.out)
               have RY_w7 := Lib.hid (show w7.heap[g2]? = some (.cells TX 24 (0, 0)) by rw [BB.block _ (lt_of_row RY_w6.out)]; exact RY_w6.out)
               have HG_w7 := Lib.hid (HG_w6.out.below BB)
               clear BB)
            | (go_at_call 22; (with_reducible refine (L3b.out _).mono ?_); rintro e w8 ⟨rfl, BB⟩
               have HB_w8 := Lib.hid (HB_w7.out.trans (BB.mono HB_w7.out.size))
               have R0_w8 := Lib.hid (show w8.heap[w.heap.size]? = some (.cells CA 24 (0, 0)) by rw [BB.block _ (lt_of_row R0_w7.out)]; exact R0_w7.out)
               have R1_w8 := Lib.hid (show w8.heap[w.heap.size + 1]? = some (.cells CB 24 (0, 0)) by rw [BB.block _ (lt_of_row R1_w7.out)]; exact R1_w7.out)
               have RX_w8 := Lib.hid (show w8.heap[g1]? = some (.cells TX 24 (0, 0)) by rw [BB.block _ (lt_of_row RX_w7.out)]; exact RX_w7.out)
               have RY_w8 := Lib.hid (show w8.heap[g2]? = some (.cells TX 24 (0, 0)) by rw [BB.block _ (lt_of_row RY_w7.out)]; exact RY_w7.out)
               have HG_w8 := Lib.hid (HG_w7.out.below BB)
               clear BB)
            | (go_at_call 7; (refine (alive_any _ HG_w8.out).mono ?_); rintro e w9 ⟨rfl, BB⟩
               have HB_w9 := Lib.hid (HB_w8.out.trans (BB.mono HB_w8.out.size))
               clear BB))
          go_ret
          exact ⟨rfl, HB_w9.out⟩
end Go.Proofs.YtmkekdmkefkfiaaDoor.adC

/-
  The document's addresses: their bytes, any bytes' address.
-/
namespace Go.Proofs.YtmkekdmkefkfiaaDoor.adC
open Go.ChangeShapes Go.WideShapes Go.ChangeAt Go.RowKit
open Go.Proofs.YtmkekdmkefkfiaaDoor.memC Go.Proofs.YtmkekdmkefkfiaaDoor.genC Go.Proofs.YtmkekdmkefkfiaaDoor.butC Go.Proofs.YtmkekdmkefkfiaaDoor.freeC Go.Proofs.YtmkekdmkefkfiaaDoor.txC
set_option linter.unusedVariables false
theorem adr_nums {s : Bool} {b : List Int} {w' : World} {g : Nat} (h : b.length = 16) (hr : w'.heap[g]? = some (.cells (adrV s b) 24 (0, 0))) {n : Nat} (hn : n ≤ 16) : Nums .u8 w' w'.heap.size (some ⟨g, 1, none⟩) n (b.take n) := by
  refine ⟨by rw [List.length_take, h]; omega, fun _ => ⟨g, 1, rfl, lt_of_row hr, fun i hi => ?_⟩⟩
  rw [cell_of_row w' g (1 + i) _ _ (0, 0) hr, adrV_at (by omega)]
  rw [List.getD_eq_getElem?_getD, List.getD_eq_getElem?_getD, List.getElem?_take, if_pos hi]
set_option maxRecDepth 100000 in
theorem rbytes_any (s : Bool) (b : List Int) (w : World) (h : b.length = 16) : Calls Tryd.prog 14 #[.agg (adrV s b)] w (BytRet w (adrL s b)) := by
  obtain ⟨i0, hi0, hz0, hz1, hz2⟩ := info_parts byte_inf
  have T1 := Lib.hid hi0; have T2 := Lib.hid hz0; have T3 := Lib.hid hz1; have T4 := Lib.hid hz2
  have HR := Lib.hid (show (w.alloc (.cells (adrV s b) 24)).heap[w.heap.size]? = some (.cells (adrV s b) 24 (0, 0)) from heap_alloc_new w _)
  have HI := Lib.hid (adr_info s h)
  have HB := Lib.hid (alloc_below w (.cells (adrV s b) 24))
  have SZ := Lib.hid (fun w' => size_any s b w' h)
  have HN := Lib.hid (fun (w' : World) (hr : w'.heap[w.heap.size]? = some (.cells (adrV s b) 24 (0, 0))) => adr_nums h hr (adrN_le s))
  have LE := Lib.hid (adrN_le s)
  have LL := Lib.hid (adrL_len (six := s) h)
  have EL : Hid (adrL s b = b.take (adrN s)) := Lib.hid rfl
  rw [EL.out] at LL ⊢
  have lz : (adrN s : Int) ≤ 16 := by have := adrN_le s; omega
  generalize b.take (adrN s) = bs at *
  generalize adrN s = n at *
  generalize adrV s b = C at *
  obtain ⟨W, hW⟩ : ∃ W, W = w.alloc (.cells C 24) := ⟨_, rfl⟩
  rw [← hW] at HR HB
  clear hi0 hz0 hz1 hz2 h
  go_enter Tryd.func14, Tryd.ntmps14
  go_upto_region 1 with fail
  rw [← hW]
  clear hW
  go_wp2_with (first
    | (refine wpList_load_row rfl 24 (.tmp 1) rfl w.heap.size rfl _ _ _ _ HR.out Tryd.underlying24 rfl HI.out ?_)
    | (go_at_call 25; (refine (SZ.out _).mono ?_); rintro e w2 ⟨rfl, B2⟩
       have HB2 := Lib.hid (HB.out.trans (B2.mono HB.out.size))
       have NN := Lib.hid (HN.out w2 (by rw [B2.block _ (lt_of_row HR.out)]; exact HR.out))
       clear B2)
    | (at_builtin; (refine wpList_app _ rfl (.const (.slice none 0 0)) (.tmp 6) _ rfl 5 i0 _ 1 Tryd.underlying25 T1.out T2.out T3.out T4.out rfl w.heap.size _ [] rfl (Own.nil w2 w.heap.size) _ _ n 16 bs rfl NN.out (by simp only [maxLen, List.length_nil]; omega) (by simp only [List.length_nil]; omega) HB2.out.size ?_)
       intro v' w' O' hg'
       have Bn : Hid (Below w.heap.size w w') := Lib.hid (Below.grown HB2.out hg' HB2.out.size fun g hg => by cases hg)
       have HO := Lib.hid O'
       clear hg' O'))
  go_ret
  obtain ⟨A, cap, ev, h1, h2, h3⟩ := HO.out.form
  have O := HO.out
  simp only [List.nil_append] at ev h1 h3 O
  subst ev
  rw [LL.out] at h1 O ⊢
  exact ⟨A, n, cap, rfl, LL.out, h1, h2, O, Bn.out⟩
/-- behind k bytes -/
def ofT (bs : List Int) (k : Nat) : List Int := bs.take k ++ zs (16 - k)
theorem ofT_len {bs : List Int} {k : Nat} (h : k ≤ bs.length) (h16 : k ≤ 16) : (ofT bs k).length = 16 := by unfold ofT; rw [List.length_append, List.length_take, zs_len]; omega
theorem ofT_set {bs : List Int} {k : Nat} (h : k < bs.length) (h16 : k < 16) : (ofT bs k).set k (bs.getD k 0) = ofT bs (k + 1) := by
  unfold ofT
  have hl : (bs.take k).length = k := by rw [List.length_take]; omega
  rw [List.set_append_right _ _ (by omega), hl, Nat.sub_self]
  rw [List.take_succ_eq_append_getElem h, List.append_assoc]
  congr 1
  rw [show 16 - k = (16 - (k + 1)) + 1 by omega, List.getD_eq_getElem?_getD, List.getElem?_eq_getElem h]
  rfl
theorem ofL_some {bs : List Int} {s : Bool} {n : Nat} (hl : bs.length = n) (hs : (n = 4 ∧ s = false) ∨ (n = 16 ∧ s = true)) : ofL bs = some (s, ofT bs n) := by
  unfold ofL ofT
  rcases hs with ⟨h, rfl⟩ | ⟨h, rfl⟩
  · rw [if_pos (hl.trans h), List.take_of_length_le (by omega), h]
  · rw [if_neg (by omega), if_pos (hl.trans h), List.take_of_length_le (by omega), h]; simp [zs]
set_option maxRecDepth 100000 in
set_option maxHeartbeats 2000000 in
theorem rof_some (A : Option Addr) (n c : Nat) (bs : List Int) (s : Bool) (w : World) (hb : Nums .u8 w w.heap.size A n bs) (hs : (n = 4 ∧ s = false) ∨ (n = 16 ∧ s = true)) :
    Calls Tryd.prog 9 #[.slice A n c] w (ORet 1 w (ofL bs)) := by
  have hzv := zeroAdr
  have e1 : (w.alloc (.cells zAdr 24)).heap.size = w.heap.size + 1 := alloc_size _ _
  have HV := Lib.hid (ofL_some hb.len hs)
  rw [HV.out]
  have HL := Lib.hid hb.len
  have NB := Lib.hid hb
  have n16 : n ≤ 16 := by omega
  obtain ⟨W, hW⟩ : ∃ W, W = (w.alloc (.cells zAdr 24)).alloc (.cells (adrV s (zs 16)) 24) := ⟨_, rfl⟩
  have hse : zAdr.setIfInBounds 0 (.bool s) = adrV s (zs 16) := by cases s <;> kernel_rfl
  have RN : Hid (((w.alloc (.cells zAdr 24)).alloc (.cells zAdr 24)).heap[w.heap.size + 1]? = some (.cells zAdr 24 (0, 0))) := Lib.hid (by rw [← e1]; exact heap_alloc_new _ _)
  have UI := Lib.hid (adr_info s (zs_len 16))
  have ZI := Lib.hid (z_size s (zs_len 16))
  have OI := Lib.hid (adrV_one s (zs 16))
  have S0 := Lib.hid (show FSt w (w.heap.size + 1) s (ofT bs 0) W from ⟨by rw [hW]; exact ((Below.refl _ _).alloc (Nat.le_refl _) _).alloc (by simp) _, by rw [hW, Below.block (alloc_below _ _) _ (by rw [e1]; omega)]; exact heap_alloc_new w _, by rw [hW, ← e1]; exact heap_alloc_new _ _, by omega, zs_len 16⟩)
  have HF' := Lib.hid (fun (b : List Int) (h : b.length = 16) => And.intro (adr_info s h) (And.intro (z_size s h) (adrV_one s b)))
  have HT := Lib.hid (fun (k : Nat) (hk : k < n) => ofT_set (bs := bs) (k := k) (by rw [hb.len]; exact hk) (by omega))
  have LT := Lib.hid (fun (k : Nat) (hk : k ≤ n) => ofT_len (bs := bs) (k := k) (by rw [hb.len]; exact hk) (by omega))
  have q0 : ((n : Int) == 16) = s := by rcases hs with ⟨rfl, rfl⟩ | ⟨rfl, rfl⟩ <;> rfl
  have q5 : n = 4 ∨ n = 16 := by omega
  have HQ5 := Lib.hid q5
  clear hb hs
  by_cases h4 : n = 4
  · have q1 : ((n : Int) != 4) = false := by subst h4; rfl
    have q2 : ((n : Int) == 4) = true := by subst h4; rfl
    clear q5 h4
    go_enter Tryd.func9, Tryd.ntmps9
    go_upto_region 4 with (first
      | (refine wpList_store_row rfl 24 (.tmp 4) (.tmp 18) rfl (w.heap.size + 1) _ rfl rfl _ _ RN.out UI.out ZI.out OI.out ?_))
    rw [← e1, World.setRow_alloc_new, ← hW, e1]
    obtain ⟨g, hgd⟩ : ∃ g, g = w.heap.size + 1 := ⟨_, rfl⟩
    have HGL := Lib.hid (show w.heap.size < g by omega)
    rw [← hgd] at S0 ⊢
    clear hW e1 hzv hgd RN hse q0
    have hz16 : (n : Int) ≤ 16 := by omega
    go_wp2_with fail
    go_loopw [5] (fun v wr => ∃ i : Nat, i ≤ n ∧ v = .int .i64 i ∧ FSt w g s (ofT bs i) wr) (fun v _ => n - (intOf v).toNat)
    case atStart => exact ⟨0, by omega, rfl, S0.out⟩
    case round =>
      obtain ⟨i, hi, rfl, KK⟩ := hrel
      have HK := Lib.hid KK
      clear KK
      by_cases hlt : i < n
      · obtain ⟨gb, go, rfl, hgb, hc0⟩ := NB.out.cell (i := i) hlt
        have hzm : (i : Int) < (n : Int) := by omega
        have cx : wr.cell? ⟨gb, go + i, none⟩ = some (.int .u8 (bs.getD i 0)) := (HK.out.bel.cell (p := ⟨gb, go + i, none⟩) hgb).trans hc0
        have HST := Lib.hid (HT.out i hlt)
        have hc1 := HK.out.cell (i := i) (by omega)
        have hf1 := HK.out.frozen (1 + i)
        have HF2 := Lib.hid (HK.out.set i (bs.getD i 0))
        rw [HST.out] at HF2
        clear hc0
        generalize bs.getD i 0 = x at *
        have iz : (i : Int) < 16 := by omega
        go_wp2_with fail
        go_roundw
        case rel => exact ⟨i + 1, by omega, by go_num, HF2.out⟩
        case measure => simp [intOf]; omega
      · have e : i = n := by omega
        subst e
        have HR := Lib.hid HK.out.row
        have HR0 := Lib.hid HK.out.res
        have HB := Lib.hid HK.out.bel
        have U := Lib.hid (HF'.out (ofT bs i) (LT.out i (Nat.le_refl _)))
        generalize hTT : adrV s (ofT bs i) = T at *
        have HTT := Lib.hid hTT
        clear hTT
        go_wp2_with (first
          | (refine wpList_load_row rfl 24 (.tmp 4) rfl g rfl _ _ _ _ HR.out Tryd.underlying24 rfl U.out.1 ?_)
          | (refine wpList_store_row rfl 24 (.tmp 2) (.tmp 32) rfl w.heap.size _ rfl rfl _ _ HR0.out U.out.1 U.out.2.1 U.out.2.2 ?_))
        refine bodyPost_ret (v := .tuple #[.agg T, .int .i64 0]) (results_cell_tmp Tryd.results9 _ _ w.heap.size _ _ _ _ _ (by rfl) (setRow_heap _ _ _ _ _ _ HR0.out) Tryd.underlying24 rfl U.out.1 (by rfl)) rfl ?_
        exact ⟨by rw [← HTT.out], HB.out.trans ⟨rfl, rfl, rfl, by simp, fun z hz => setRow_other _ _ _ _ (by omega)⟩⟩
  · have h16 : n = 16 := by omega
    have q1 : ((n : Int) != 4) = true := by subst h16; rfl
    have q2 : ((n : Int) == 4) = false := by subst h16; rfl
    have q3 : ((n : Int) != 16) = false := by subst h16; rfl
    clear q5 h4 h16
    go_enter Tryd.func9, Tryd.ntmps9
    go_upto_region 4 with (first
      | (refine wpList_store_row rfl 24 (.tmp 4) (.tmp 18) rfl (w.heap.size + 1) _ rfl rfl _ _ RN.out UI.out ZI.out OI.out ?_))
    rw [← e1, World.setRow_alloc_new, ← hW, e1]
    obtain ⟨g, hgd⟩ : ∃ g, g = w.heap.size + 1 := ⟨_, rfl⟩
    have HGL := Lib.hid (show w.heap.size < g by omega)
    rw [← hgd] at S0 ⊢
    clear hW e1 hzv hgd RN hse q0
    have hz16 : (n : Int) ≤ 16 := by omega
    go_wp2_with fail
    go_loopw [5] (fun v wr => ∃ i : Nat, i ≤ n ∧ v = .int .i64 i ∧ FSt w g s (ofT bs i) wr) (fun v _ => n - (intOf v).toNat)
    case atStart => exact ⟨0, by omega, rfl, S0.out⟩
    case round =>
      obtain ⟨i, hi, rfl, KK⟩ := hrel
      have HK := Lib.hid KK
      clear KK
      by_cases hlt : i < n
      · obtain ⟨gb, go, rfl, hgb, hc0⟩ := NB.out.cell (i := i) hlt
        have hzm : (i : Int) < (n : Int) := by omega
        have cx : wr.cell? ⟨gb, go + i, none⟩ = some (.int .u8 (bs.getD i 0)) := (HK.out.bel.cell (p := ⟨gb, go + i, none⟩) hgb).trans hc0
        have HST := Lib.hid (HT.out i hlt)
        have hc1 := HK.out.cell (i := i) (by omega)
        have hf1 := HK.out.frozen (1 + i)
        have HF2 := Lib.hid (HK.out.set i (bs.getD i 0))
        rw [HST.out] at HF2
        clear hc0
        generalize bs.getD i 0 = x at *
        have iz : (i : Int) < 16 := by omega
        go_wp2_with fail
        go_roundw
        case rel => exact ⟨i + 1, by omega, by go_num, HF2.out⟩
        case measure => simp [intOf]; omega
      · have e : i = n := by omega
        subst e
        have HR := Lib.hid HK.out.row
        have HR0 := Lib.hid HK.out.res
        have HB := Lib.hid HK.out.bel
        have U := Lib.hid (HF'.out (ofT bs i) (LT.out i (Nat.le_refl _)))
        generalize hTT : adrV s (ofT bs i) = T at *
        have HTT := Lib.hid hTT
        clear hTT
        go_wp2_with (first
          | (refine wpList_load_row rfl 24 (.tmp 4) rfl g rfl _ _ _ _ HR.out Tryd.underlying24 rfl U.out.1 ?_)
          | (refine wpList_store_row rfl 24 (.tmp 2) (.tmp 32) rfl w.heap.size _ rfl rfl _ _ HR0.out U.out.1 U.out.2.1 U.out.2.2 ?_))
        refine bodyPost_ret (v := .tuple #[.agg T, .int .i64 0]) (results_cell_tmp Tryd.results9 _ _ w.heap.size _ _ _ _ _ (by rfl) (setRow_heap _ _ _ _ _ _ HR0.out) Tryd.underlying24 rfl U.out.1 (by rfl)) rfl ?_
        exact ⟨by rw [← HTT.out], HB.out.trans ⟨rfl, rfl, rfl, by simp, fun z hz => setRow_other _ _ _ _ (by omega)⟩⟩
set_option maxRecDepth 100000 in
theorem rof_no (A : Option Addr) (n c : Nat) (bs : List Int) (w : World) (hl : bs.length = n) (h4 : n ≠ 4) (h16 : n ≠ 16) :
    Calls Tryd.prog 9 #[.slice A n c] w (ORet 1 w (ofL bs)) := by
  have hzv := zeroAdr
  have Z0 := Lib.hid z_info; have Z1 := Lib.hid z_one; have Z2 := Lib.hid built_zero
  have R0 := Lib.hid (show (w.alloc (.cells zAdr 24)).heap[w.heap.size]? = some (.cells zAdr 24 (0, 0)) from heap_alloc_new w _)
  have B0 := Lib.hid (alloc_below w (.cells zAdr 24))
  have HV : Hid (ofL bs = none) := Lib.hid (by unfold ofL; rw [if_neg (by omega), if_neg (by omega)])
  have q1 : ((n : Int) != 4) = true := by simp; omega
  have q2 : ((n : Int) == 4) = false := by simp; omega
  have q3 : ((n : Int) != 16) = true := by simp; omega
  have q4 : ((n : Int) == 16) = false := by simp; omega
  rw [HV.out]
  clear hl h4 h16
  generalize hZ : zAdr = Z at *
  have HZ := Lib.hid hZ
  clear hZ
  go_enter Tryd.func9, Tryd.ntmps9
  go_wp2_with (first
    | (refine wpList_zero rfl 24 rfl Z Z2.out ?_)
    | (refine wpList_store_row rfl 24 (.tmp 2) (.tmp 14) rfl w.heap.size Z rfl rfl _ _ R0.out Z0.out rfl Z1.out ?_))
  refine bodyPost_ret (v := .tuple #[.agg Z, .int .i64 1]) (results_cell_tmp Tryd.results9 _ _ w.heap.size _ _ _ _ _ (by rfl) (setRow_heap _ _ _ _ _ _ R0.out) Tryd.underlying24 rfl Z0.out (by rfl)) rfl ?_
  exact ⟨by rw [← HZ.out], B0.out.trans ⟨rfl, rfl, rfl, by simp, fun z hz => setRow_other _ _ _ _ (by omega)⟩⟩
theorem rof_any (A : Option Addr) (n c : Nat) (bs : List Int) (w : World) (hb : Nums .u8 w w.heap.size A n bs) : Calls Tryd.prog 9 #[.slice A n c] w (ORet 1 w (ofL bs)) := by
  by_cases h4 : n = 4
  · exact rof_some A n c bs false w hb (.inl ⟨h4, rfl⟩)
  · by_cases h16 : n = 16
    · exact rof_some A n c bs true w hb (.inr ⟨h16, rfl⟩)
    · exact rof_no A n c bs w hb.len h4 h16
end Go.Proofs.YtmkekdmkefkfiaaDoor.adC
