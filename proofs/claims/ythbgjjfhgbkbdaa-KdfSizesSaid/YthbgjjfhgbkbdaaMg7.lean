/-
  2 texts of a proof, joined.
-/
import Derived.Test.YthbgjjfhgbkbdaaMg6
import Derived.Test.YthbgjjfhgbkbdaaMg5

/-
  The code's sha: a block's eighty numbers.
-/
namespace Go.Proofs.Ythbgjjfhgbkbdaa.shaC
open Go.ChangeShapes Go.WideShapes Go.ChangeAt Go.RowKit
open Go.Proofs.Ythbgjjfhgbkbdaa.memC Go.Proofs.Ythbgjjfhgbkbdaa.genC Go.Proofs.Ythbgjjfhgbkbdaa.shaM Go.Proofs.Ythbgjjfhgbkbdaa.shaN Go.Proofs.Ythbgjjfhgbkbdaa.butC
set_option linter.unusedVariables false
/-- the first r bytes of a number -/
def pw (bs : List Int) (q : Nat) : Nat → Int
  | 0 => 0
  | r + 1 => pw bs q r * 256 + bs.getD (4 * q + r) 0
theorem pw_word (bs : List Int) (q : Nat) : pw bs q 4 = word bs q := by simp only [pw, word, Nat.add_zero]; omega
theorem pw_bd {bs : List Int} (h : ∀ x ∈ bs, Byte x) (q : Nat) (hl : 4 * q + 3 < bs.length) : ∀ r, r ≤ 3 → 0 ≤ pw bs q r ∧ pw bs q r < 16777216 := by
  have y0 := getD_byte h (k := 4 * q) (by omega)
  have y1 := getD_byte h (k := 4 * q + 1) (by omega)
  have y2 := getD_byte h (k := 4 * q + 2) (by omega)
  unfold Byte at y0 y1 y2
  intro r hr
  rcases (show r = 0 ∨ r = 1 ∨ r = 2 ∨ r = 3 by omega) with rfl | rfl | rfl | rfl <;> simp only [pw, Nat.add_zero] <;> omega
/-- the numbers behind i bytes -/
def accW (bs : List Int) (i : Nat) : List Int := (List.range 80).map fun q => pw bs q (min 4 (i - 4 * q))
theorem acc_len (bs : List Int) (i : Nat) : (accW bs i).length = 80 := by simp [accW]
theorem acc_at (bs : List Int) (i q : Nat) (hq : q < 80) : (accW bs i)[q]? = some (pw bs q (min 4 (i - 4 * q))) := by simp [accW, hq]
theorem acc_get (bs : List Int) (i : Nat) (hi : i < 64) : (accW bs i).getD (i / 4) 0 = pw bs (i / 4) (i % 4) := by
  rw [List.getD_eq_getElem?_getD, acc_at bs i _ (by omega), show min 4 (i - 4 * (i / 4)) = i % 4 by omega]; rfl
theorem acc_set (bs : List Int) (i : Nat) (hi : i < 64) : (accW bs i).set (i / 4) (pw bs (i / 4) (i % 4) * 256 + bs.getD i 0) = accW bs (i + 1) := by
  apply List.ext_getElem?
  intro j
  rw [List.getElem?_set]
  by_cases hj : j < 80
  · rw [acc_at bs (i + 1) j hj, acc_at bs i j hj, acc_len]
    by_cases e : i / 4 = j
    · subst e
      have e1 : min 4 (i + 1 - 4 * (i / 4)) = i % 4 + 1 := by omega
      have e2 : 4 * (i / 4) + i % 4 = i := by omega
      rw [if_pos rfl, if_pos hj, e1, pw, e2]
    · have e1 : min 4 (i + 1 - 4 * j) = min 4 (i - 4 * j) := by omega
      rw [if_neg e, e1]
  · have h1 : (accW bs (i + 1))[j]? = none := List.getElem?_eq_none (by rw [acc_len]; omega)
    have h2 : (accW bs i)[j]? = none := List.getElem?_eq_none (by rw [acc_len]; omega)
    rw [h1, h2, if_neg (by omega)]
theorem acc_zero (bs : List Int) : accW bs 0 = List.replicate 80 0 := by
  apply List.ext_getElem?
  intro j
  by_cases hj : j < 80
  · rw [acc_at bs 0 j hj, List.getElem?_replicate, if_pos hj, Nat.zero_sub]; rfl
  · rw [List.getElem?_eq_none (by rw [acc_len]; omega), List.getElem?_eq_none (by simp; omega)]
theorem sched_words (bs : List Int) : ∀ t, t ≤ 16 → sched bs t = (List.range t).map (word bs)
  | 0, _ => rfl
  | t + 1, h => by
    rw [sched, sched_words bs t (by omega), nextW, if_pos (by omega), List.range_succ, List.map_append]; rfl
theorem acc_full (bs : List Int) : accW bs 64 = sched bs 16 ++ List.replicate (80 - 16) 0 := by
  apply List.ext_getElem?
  intro j
  rw [sched_words bs 16 (Nat.le_refl _)]
  by_cases hj : j < 80
  · rw [acc_at bs 64 j hj]
    by_cases h16 : j < 16
    · rw [List.getElem?_append_left (by simpa using h16), List.getElem?_map, List.getElem?_range h16, show min 4 (64 - 4 * j) = 4 by omega, pw_word]; rfl
    · rw [List.getElem?_append_right (by simp; omega), List.getElem?_replicate, if_pos (by simp; omega), show min 4 (64 - 4 * j) = 0 by omega]; rfl
  · rw [List.getElem?_eq_none (by rw [acc_len]; omega), List.getElem?_eq_none (by simp; omega)]
/-- a byte laid behind -/
theorem or_byte {x c : Int} (h0 : 0 ≤ x) (h1 : x < 16777216) (hc : Byte c) : bits .or .u32 (x * 256) c = x * 256 + c := by
  obtain ⟨c0, c1⟩ := hc
  rw [Go.u32_or _ _ (by omega) (by omega) c0 (by omega)]
  obtain ⟨X, rfl⟩ := Int.eq_ofNat_of_zero_le h0
  obtain ⟨C, rfl⟩ := Int.eq_ofNat_of_zero_le c0
  have e1 : ((X : Int) * 256).toNat = X <<< 8 := by rw [Nat.shiftLeft_eq]; omega
  have e2 : ((C : Int)).toNat = C := by omega
  rw [e1, e2, ← Nat.shiftLeft_add_eq_or_of_lt (by omega : C < 2 ^ 8), Nat.shiftLeft_eq]
  omega
/-- the blocks that a call of spread lays -/
structure SR (w : World) (ws : List Int) (wr : World) : Prop where
  b1 : Arr .u32 101 wr (w.heap.size + 1) (List.replicate 80 0)
  b2 : Arr .u32 101 wr (w.heap.size + 1 + 1) ws
  bel : Below w.heap.size w wr
theorem SR.heap {w wr w' : World} {ws : List Int} (B : SR w ws wr) (e : w'.heap = wr.heap) (e1 : w'.os = wr.os) (e2 : w'.tape = wr.tape) (e3 : w'.output = wr.output) : SR w ws w' :=
  ⟨B.b1.heap e, B.b2.heap e, B.bel.trans ⟨e1, e2, e3, by rw [e]; exact Nat.le_refl _, fun k _ => by rw [e]⟩⟩
theorem SR.w {w wr : World} {ws : List Int} (B : SR w ws wr) (j : Nat) (x : Int) : SR w (ws.set j x) (wr.setCell ⟨w.heap.size + 1 + 1, j, none⟩ (.int .u32 x)) :=
  ⟨B.b1.other (by show w.heap.size + 1 + 1 ≠ w.heap.size + 1; omega) _, B.b2.stored j x, B.bel.setCell (p := ⟨w.heap.size + 1 + 1, j, none⟩) (by show w.heap.size ≤ w.heap.size + 1 + 1; omega) _⟩
theorem block_info : (Try.prog.info? 69).map (·.size) = some 64 := by kernel_rfl
theorem eighty_info : (Try.prog.info? 101).map (·.size) = some 80 := by kernel_rfl
theorem nums_one32 (d : List Int) : ((d.map (Value.int .u32)).toArray).all (·.oneCell') = true := by
  rw [Array.all_eq_true_iff_forall_mem]
  intro v hv
  simp at hv
  obtain ⟨z, _, rfl⟩ := hv
  rfl
def SpreadRet (w : World) (bs : List Int) (e : Ending) (w' : World) : Prop := e = .returned (.agg ((sched bs 80).map (Value.int .u32)).toArray) ∧ Below w.heap.size w w'
set_option maxRecDepth 100000 in
set_option maxHeartbeats 1000000 in
theorem spread_any (bs : List Int) (w : World) (hl : bs.length = 64) (hy : ∀ x ∈ bs, Byte x) :
    Calls Try.prog 63 #[.agg (bs.map (Value.int .u8)).toArray] w (SpreadRet w bs) := by
  obtain ⟨Z, hZ⟩ : ∃ Z, Z = ((List.replicate 80 (0 : Int)).map (Value.int .u32)).toArray := ⟨_, rfl⟩
  have hzv := zero80
  rw [← hZ] at hzv
  have HZ := Lib.hid hZ
  clear hZ
  obtain ⟨V, hV⟩ : ∃ V, V = (bs.map (Value.int .u8)).toArray := ⟨_, rfl⟩
  rw [← hV]
  have HV := Lib.hid hV
  have VS : V.size = 64 := by rw [hV]; simp [hl]
  obtain ⟨i0, hi0, hz0, hz1, hz2⟩ := info_parts byte_info
  have T1 := Lib.hid hi0; have T3 := Lib.hid hz1
  clear hi0 hz0 hz1 hz2
  have U1 := Lib.hid (show (Try.prog.info? 69).map (·.size) = some V.size by rw [block_info, VS])
  have HL := Lib.hid hl
  clear hV hl
  go_enter Try.func63, Try.ntmps63
  go_upto_region 2 with fail
  obtain ⟨W, hW⟩ : ∃ W, W = ((w.alloc (Obj.cells V 69)).alloc (Obj.cells Z 101)).alloc (Obj.cells Z 101) := ⟨_, rfl⟩
  rw [← hW]
  have B0 : SR w (accW bs 0) W := by
    rw [hW, acc_zero]
    have e1 : (w.alloc (Obj.cells V 69)).heap.size = w.heap.size + 1 := alloc_size _ _
    have e2 : ((w.alloc (Obj.cells V 69)).alloc (Obj.cells Z 101)).heap.size = w.heap.size + 1 + 1 := by rw [alloc_size, e1]
    refine ⟨?_, ?_, ?_⟩
    · have := (Arr.new (w.alloc (.cells V 69)) .u32 101 (List.replicate 80 0)).alloc (.cells Z 101)
      rw [e1, ← HZ.out] at this; exact this
    · have := Arr.new ((w.alloc (.cells V 69)).alloc (.cells Z 101)) .u32 101 (List.replicate 80 0)
      rw [e2, ← HZ.out] at this; exact this
    · exact (((Below.refl _ _).alloc (Nat.le_refl _) _).alloc (by simp) _).alloc (by simp; omega) _
  have G0 : Hid (W.heap[w.heap.size]? = some (.cells V 69 (0, 0))) := by
    refine Lib.hid ?_
    rw [hW, Below.block ((alloc_below _ _).mono (by simp)) _ (Nat.lt_succ_self _), Below.block (alloc_below _ _) _ (by simp)]
    exact heap_alloc_new w _
  clear hW
  go_wp2_with (first
    | (refine wpList_load_row rfl 69 (.tmp 1) rfl w.heap.size rfl _ _ _ _ G0.out Try.underlying69 rfl U1.out ?_))
  go_loopw [8] (fun i wr => ∃ k : Nat, k ≤ 64 ∧ i = .int .i64 k ∧ SR w (accW bs k) wr) (fun i _ => 64 - (intOf i).toNat)
  case atStart => exact ⟨0, by omega, rfl, B0⟩
  case round =>
    obtain ⟨k, hk, rfl, BB⟩ := hrel
    have HB := Lib.hid BB
    by_cases hlt : k < 64
    · obtain ⟨q, hq⟩ : ∃ q, q = k / 4 := ⟨_, rfl⟩
      have hqz : (k : Int) / 4 = (q : Int) := by omega
      have hq16 : q < 16 := by omega
      have hkz : (k : Int) < 64 := by omega
      have hqz2 : (q : Int) < 80 := by omega
      have cw := BB.b2.cell (j := q) (by rw [acc_len]; omega)
      have fw := BB.b2.frozen q
      rw [hq, acc_get bs k hlt, ← hq] at cw
      have px := pw_bd hy q (by rw [HL.out]; omega) (k % 4) (by omega)
      have hs := acc_set bs k hlt
      rw [← hq] at hs
      have hc := getD_byte hy (k := k) (by rw [HL.out]; exact hlt)
      have hV : V[k]? = some (.int .u8 (bs.getD k 0)) := by rw [HV.out]; simp [List.getD_eq_getElem?_getD, HL.out, hlt]
      generalize pw bs q (k % 4) = x at *
      generalize bs.getD k 0 = c at *
      have e1 := or_byte px.1 px.2 hc
      have e2 : x * 256 % 4294967296 = x * 256 := by omega
      obtain ⟨c0, c1⟩ := hc
      obtain ⟨x0, x1⟩ := px
      have HS := Lib.hid hs
      have ix : (Instr.index 69 (.agg V) (.int .i64 (k : Int))).run Try.prog wr = .ok (.int .u8 c) wr := Go.Proofs.Ythbgjjfhgbkbdaa.idxC.run_idx wr _ _ 64 .u8 i0 V k _ Try.underlying69 rfl T1.out T3.out hlt hV
      clear hs hq BB hV
      go_wp2_with fail
      go_roundw
      case rel =>
        refine ⟨k + 1, by omega, by go_num, ?_⟩
        rw [← HS.out]
        exact HB.out.w q _
      case measure => simp [intOf]; omega
    · have e : k = 64 := by omega
      subst e
      rw [acc_full] at BB
      clear HB hlt hk
      go_wp2_with fail
      go_loopw [6] (fun i wx => ∃ t : Nat, 16 ≤ t ∧ t ≤ 80 ∧ i = .int .i64 t ∧ SR w (sched bs t ++ List.replicate (80 - t) 0) wx) (fun i _ => 80 - (intOf i).toNat)
      case atStart => exact ⟨16, by omega, by omega, rfl, BB⟩
      case round =>
        obtain ⟨t, h16, ht, rfl, BB⟩ := hrel
        have HB := Lib.hid BB
        by_cases hlt : t < 80
        · have hg : ∀ q, 1 ≤ q → q ≤ t → (sched bs t ++ List.replicate (80 - t) 0).getD (t - q) 0 = (sched bs t).getD (t - q) 0 := fun q h1 h2 => by
            rw [List.getD_eq_getElem?_getD, List.getD_eq_getElem?_getD, List.getElem?_append_left (by rw [sched_len]; omega)]
          have hl80 : (sched bs t ++ List.replicate (80 - t) 0).length = 80 := by simp [sched_len]; omega
          have c3 := BB.b2.cell (j := t - 3) (by omega)
          have c8 := BB.b2.cell (j := t - 8) (by omega)
          have c14 := BB.b2.cell (j := t - 14) (by omega)
          have c16 := BB.b2.cell (j := t - 16) (by omega)
          rw [hg 3 (by omega) (by omega)] at c3
          rw [hg 8 (by omega) (by omega)] at c8
          rw [hg 14 (by omega) (by omega)] at c14
          rw [hg 16 (by omega) (by omega)] at c16
          have hw0 := BB.b2.cell (j := t) (by omega)
          have hf0 := BB.b2.frozen t
          obtain ⟨v, hv⟩ : ∃ v, v = (sched bs t ++ List.replicate (80 - t) 0).getD t 0 := ⟨_, rfl⟩
          rw [← hv] at hw0
          have HT := Lib.hid (show sched bs (t + 1) = sched bs t ++ [rol (xo (xo (xo ((sched bs t).getD (t - 3) 0) ((sched bs t).getD (t - 8) 0)) ((sched bs t).getD (t - 14) 0)) ((sched bs t).getD (t - 16) 0)) 1] by
            rw [sched, nextW, if_neg (by omega)])
          generalize (sched bs t).getD (t - 3) 0 = x3 at *
          generalize (sched bs t).getD (t - 8) 0 = x8 at *
          generalize (sched bs t).getD (t - 14) 0 = x14 at *
          generalize (sched bs t).getD (t - 16) 0 = x16 at *
          have RR := Lib.hid (fun w => (rotl_any (xo (xo (xo x3 x8) x14) x16) 1 w (w32_xo _ _) (.inl rfl)).mono (fun e w' h => (show e = .returned (.int .u32 (rol (xo (xo (xo x3 x8) x14) x16) 1)) ∧ ∃ j, w' = w.drewN j from ⟨h.1, 0, h.2.symm⟩)))
          clear hv BB hg hl80
          have hlz : (t : Int) < 80 := by omega
          go_upto_region 10 with fail
          obtain ⟨q3, e3⟩ : ∃ q, q = t - 3 := ⟨_, rfl⟩
          rw [← e3] at c3
          have z3 : (t : Int) - 3 = (q3 : Int) := by omega
          have i3 : IntKind.i64.wrap (q3 : Int) = (q3 : Int) := IntWalk.i64_in _ (by omega)
          have l3 : (q3 : Int) < 80 := by omega
          have n3 : q3 < 80 := by omega
          obtain ⟨q8, e8⟩ : ∃ q, q = t - 8 := ⟨_, rfl⟩
          rw [← e8] at c8
          have z8 : (t : Int) - 8 = (q8 : Int) := by omega
          have i8 : IntKind.i64.wrap (q8 : Int) = (q8 : Int) := IntWalk.i64_in _ (by omega)
          have l8 : (q8 : Int) < 80 := by omega
          have n8 : q8 < 80 := by omega
          obtain ⟨q14, e14⟩ : ∃ q, q = t - 14 := ⟨_, rfl⟩
          rw [← e14] at c14
          have z14 : (t : Int) - 14 = (q14 : Int) := by omega
          have i14 : IntKind.i64.wrap (q14 : Int) = (q14 : Int) := IntWalk.i64_in _ (by omega)
          have l14 : (q14 : Int) < 80 := by omega
          have n14 : q14 < 80 := by omega
          obtain ⟨q16, e16⟩ : ∃ q, q = t - 16 := ⟨_, rfl⟩
          rw [← e16] at c16
          have z16 : (t : Int) - 16 = (q16 : Int) := by omega
          have i16 : IntKind.i64.wrap (q16 : Int) = (q16 : Int) := IntWalk.i64_in _ (by omega)
          have l16 : (q16 : Int) < 80 := by omega
          have n16 : q16 < 80 := by omega
          clear e3 e8 e14 e16
          refine Go.Proofs.Ythbgjjfhgbkbdaa.lastC.wp_region_last 22 (by kernel_rfl) (by kernel_rfl) (by kernel_rfl) (by kernel_rfl) ?_
          simp only [List.take_succ_cons, List.take_zero, List.drop_succ_cons, List.drop_zero]
          repeat (first | go_big_quiet_step ((go_at_call 65; exact Calls.quiet_of (RR.out _))) | quiet_step ((go_at_call 65; exact Calls.quiet_of (RR.out _))))
          refine wpQuiet_nil ?_
          intro w2 hw2
          obtain ⟨n2, hw3⟩ := hw2
          subst hw3
          clear i3 i8 i14 i16 z3 z8 z14 z16 l3 l8 l14 l16 n3 n8 n14 n16
          go_wp2_with fail
          go_roundw
          case rel =>
            refine ⟨t + 1, by omega, by omega, by go_num, ?_⟩
            rw [HT.out, ← set_pad _ t _ (sched_len bs t) hlt]
            exact (HB.out.heap (w' := wr.drewN n2) rfl rfl rfl rfl).w t _
          case measure => simp [intOf]; omega
        · have e : t = 80 := by omega
          subst e
          have e8 : sched bs 80 ++ List.replicate (80 - 80) 0 = sched bs 80 := by simp
          rw [e8] at BB
          have hlS := sched_len bs 80
          have G1 := Lib.hid BB.b2.row
          have G2 := Lib.hid BB.b1.row
          have HF := Lib.hid hlS
          have U2 := Lib.hid (show (Try.prog.info? 101).map (·.size) = some (((sched bs 80).map (Value.int .u32)).toArray).size by rw [eighty_info]; simp [hlS])
          have BQ := Lib.hid BB.bel
          clear e8 hlt hlS HB BB h16 ht
          go_wp2_with (first
            | (refine wpList_load_row rfl 101 (.tmp 3) rfl (w.heap.size + 1 + 1) rfl _ _ _ _ G1.out Try.underlying101 rfl U2.out ?_)
            | (refine wpList_store_row rfl 101 (.tmp 2) (.tmp 50) rfl (w.heap.size + 1) _ rfl rfl _ _ G2.out U2.out (by simp [HF.out]) (nums_one32 _) ?_))
          refine bodyPost_ret (v := .agg ((sched bs 80).map (Value.int .u32)).toArray) (results_cell_row Try.results63 _ _ (w.heap.size + 1) _ _ _ _ (by rfl) (setRow_heap _ _ _ _ _ _ G2.out) Try.underlying101 rfl U2.out) rfl ⟨rfl, ?_⟩
          exact BQ.out.trans ⟨rfl, rfl, rfl, by simp, fun z hz => setRow_other _ _ _ _ (by omega)⟩
end Go.Proofs.Ythbgjjfhgbkbdaa.shaC

/-
  A Sum in memory; what five does.
-/
namespace Go.Proofs.Ythbgjjfhgbkbdaa.shaC
open Go.ChangeShapes Go.WideShapes Go.ChangeAt Go.RowKit
open Go.Proofs.Ythbgjjfhgbkbdaa.memC Go.Proofs.Ythbgjjfhgbkbdaa.genC Go.Proofs.Ythbgjjfhgbkbdaa.shaM Go.Proofs.Ythbgjjfhgbkbdaa.shaN Go.Proofs.Ythbgjjfhgbkbdaa.butC
set_option linter.unusedVariables false
/-- a Sum's cells: by how much the five grew, the block, the number of bytes -/
def sumC (g r : List Int) (n : Nat) : List Value := g.map (Value.int .u32) ++ (r.map (Value.int .u8) ++ [.int .u64 (n : Int)])
/-- a Sum lies in block k -/
structure SumAt (w : World) (k : Nat) (g r : List Int) (n : Nat) : Prop where
  row : w.heap[k]? = some (.cells (sumC g r n).toArray 73 (0, 0))
  lg : g.length = 5
  lr : r.length = 64
section
variable {w w' : World} {k n : Nat} {g r : List Int}
theorem sumC_len (hg : g.length = 5) (hr : r.length = 64) : (sumC g r n).length = 70 := by simp [sumC, hg, hr]
theorem sumC_g (hg : g.length = 5) {j : Nat} (hj : j < 5) : (sumC g r n)[j]? = some (.int .u32 (g.getD j 0)) := by
  unfold sumC
  rw [List.getElem?_append_left (by simpa [hg] using hj)]
  simp [List.getD_eq_getElem?_getD, hg, hj]
theorem sumC_r (hg : g.length = 5) (hr : r.length = 64) {j : Nat} (hj : j < 64) : (sumC g r n)[5 + j]? = some (.int .u8 (r.getD j 0)) := by
  unfold sumC
  rw [List.getElem?_append_right (by simp [hg]), List.length_map, hg, Nat.add_sub_cancel_left, List.getElem?_append_left (by simpa [hr] using hj)]
  simp [List.getD_eq_getElem?_getD, hr, hj]
theorem sumC_n (hg : g.length = 5) (hr : r.length = 64) : (sumC g r n)[69]? = some (.int .u64 (n : Int)) := by
  unfold sumC
  rw [List.getElem?_append_right (by simp [hg]), List.length_map, hg, List.getElem?_append_right (by simp [hr]), List.length_map, hr]
  rfl
theorem SumAt.lt (h : SumAt w k g r n) : k < w.heap.size := by
  rcases Nat.lt_or_ge k w.heap.size with h1 | h1
  · exact h1
  · have := h.row; rw [Array.getElem?_eq_none h1] at this; cases this
theorem SumAt.cell (h : SumAt w k g r n) (j : Nat) : w.cell? ⟨k, j, none⟩ = (sumC g r n)[j]? := by
  rw [cell_of_row w k j _ _ (0, 0) h.row]; simp
theorem SumAt.cg (h : SumAt w k g r n) {j : Nat} (hj : j < 5) : w.cell? ⟨k, j, none⟩ = some (.int .u32 (g.getD j 0)) := (h.cell j).trans (sumC_g h.lg hj)
theorem SumAt.cr (h : SumAt w k g r n) {j : Nat} (hj : j < 64) : w.cell? ⟨k, 5 + j, none⟩ = some (.int .u8 (r.getD j 0)) := (h.cell _).trans (sumC_r h.lg h.lr hj)
theorem SumAt.cn (h : SumAt w k g r n) : w.cell? ⟨k, 69, none⟩ = some (.int .u64 (n : Int)) := (h.cell _).trans (sumC_n h.lg h.lr)
theorem SumAt.frozen (h : SumAt w k g r n) (j : Nat) : w.frozen? ⟨k, j, none⟩ = false := frozen_of_row w k j _ _ h.row
theorem SumAt.heap (h : SumAt w k g r n) (e : w'.heap = w.heap) : SumAt w' k g r n := ⟨by rw [e]; exact h.row, h.lg, h.lr⟩
theorem SumAt.below {B : Nat} (h : SumAt w k g r n) (hb : Below B w w') (hk : k < B) : SumAt w' k g r n := ⟨by rw [hb.block k hk]; exact h.row, h.lg, h.lr⟩
theorem SumAt.alloc (h : SumAt w k g r n) (o : Obj) : SumAt (w.alloc o) k g r n := h.below (alloc_below w o) h.lt
theorem SumAt.other (h : SumAt w k g r n) {a : Addr} (ha : a.block ≠ k) (v : Value) : SumAt (w.setCell a v) k g r n := ⟨by rw [heap_setCell_other w a k v (fun e => ha e.symm)]; exact h.row, h.lg, h.lr⟩
theorem sumC_setg (hg : g.length = 5) {j : Nat} (hj : j < 5) (x : Int) : (sumC g r n).set j (.int .u32 x) = sumC (g.set j x) r n := by
  unfold sumC; rw [List.set_append_left _ _ (by simpa [hg] using hj), List.map_set]
theorem sumC_setr (hg : g.length = 5) (hr : r.length = 64) {j : Nat} (hj : j < 64) (x : Int) : (sumC g r n).set (5 + j) (.int .u8 x) = sumC g (r.set j x) n := by
  unfold sumC; rw [List.set_append_right _ _ (by simp [hg]), List.length_map, hg, Nat.add_sub_cancel_left, List.set_append_left _ _ (by simpa [hr] using hj), List.map_set]
theorem sumC_setn (hg : g.length = 5) (hr : r.length = 64) (m : Nat) : (sumC g r n).set 69 (.int .u64 (m : Int)) = sumC g r m := by
  unfold sumC; rw [List.set_append_right _ _ (by simp [hg]), List.length_map, hg, List.set_append_right _ _ (by simp [hr]), List.length_map, hr]; rfl
theorem SumAt.setg (h : SumAt w k g r n) {j : Nat} (hj : j < 5) (x : Int) : SumAt (w.setCell ⟨k, j, none⟩ (.int .u32 x)) k (g.set j x) r n :=
  ⟨by rw [heap_setCell_same w k j _ _ _ h.row, ← sumC_setg h.lg hj]; simp, by rw [List.length_set]; exact h.lg, h.lr⟩
theorem SumAt.setr (h : SumAt w k g r n) {j : Nat} (hj : j < 64) (x : Int) : SumAt (w.setCell ⟨k, 5 + j, none⟩ (.int .u8 x)) k g (r.set j x) n :=
  ⟨by rw [heap_setCell_same w k (5 + j) _ _ _ h.row, ← sumC_setr h.lg h.lr hj]; simp, h.lg, by rw [List.length_set]; exact h.lr⟩
theorem SumAt.setn (h : SumAt w k g r n) (m : Nat) : SumAt (w.setCell ⟨k, 69, none⟩ (.int .u64 (m : Int))) k g r m :=
  ⟨by rw [heap_setCell_same w k 69 _ _ _ h.row, ← sumC_setn (n := n) h.lg h.lr m]; simp, h.lg, h.lr⟩
theorem SumAt.new (w : World) (hg : g.length = 5) (hr : r.length = 64) : SumAt (w.alloc (.cells (sumC g r n).toArray 73)) w.heap.size g r n := ⟨heap_alloc_new w _, hg, hr⟩
/-- the five, as they lie -/
theorem SumAt.five (h : SumAt w k g r n) : ∀ j v, (g.map (Value.int .u32))[j]? = some v → w.cell? ⟨k, 0 + j, none⟩ = some v := by
  intro j v hv
  have hj : j < g.length := by
    rcases Nat.lt_or_ge j g.length with h1 | h1
    · exact h1
    · rw [List.getElem?_eq_none (by simpa using h1)] at hv; cases hv
  rw [Nat.zero_add, h.cg (by rw [← h.lg]; exact hj), ← hv]
  simp [List.getD_eq_getElem?_getD, hj]
/-- the block, as it lies -/
theorem SumAt.block (h : SumAt w k g r n) : ∀ j v, (r.map (Value.int .u8))[j]? = some v → w.cell? ⟨k, 5 + j, none⟩ = some v := by
  intro j v hv
  have hj : j < r.length := by
    rcases Nat.lt_or_ge j r.length with h1 | h1
    · exact h1
    · rw [List.getElem?_eq_none (by simpa using h1)] at hv; cases hv
  rw [h.cr (by rw [← h.lr]; exact hj), ← hv]
  simp [List.getD_eq_getElem?_getD, hj]
end
theorem five_info : (Try.prog.info? 71).map (·.size) = some 5 := by kernel_rfl
theorem sum_info : (Try.prog.info? 73).map (·.size) = some 70 := by kernel_rfl
def FiveRet (w : World) (g : List Int) (e : Ending) (w' : World) : Prop := e = .returned (.agg ((List.zipWith ad initH g).map (Value.int .u32)).toArray) ∧ Below w.heap.size w w'
/-- the blocks that a call of five lays -/
structure FR (w : World) (g : List Int) (j : Nat) (wr : World) : Prop where
  b0 : Arr .u32 71 wr w.heap.size [0, 0, 0, 0, 0]
  b1 : Arr .u32 71 wr (w.heap.size + 1) (mixL initH g j)
  bel : Below w.heap.size w wr
theorem mix_zero (g : List Int) : mixL initH g 0 = initH := rfl
theorem mix_len {g : List Int} (h : g.length = 5) (j : Nat) : (mixL initH g j).length = 5 := by unfold mixL; simp [initH, h]; omega
theorem mix_step {a b : List Int} (ha : a.length = 5) (hb : b.length = 5) {j : Nat} (hj : j < 5) : (mixL a b j).set j (ad (a.getD j 0) (b.getD j 0)) = mixL a b (j + 1) := by
  obtain ⟨a0, a1, a2, a3, a4, rfl⟩ := list5 ha
  obtain ⟨b0, b1, b2, b3, b4, rfl⟩ := list5 hb
  rcases (show j = 0 ∨ j = 1 ∨ j = 2 ∨ j = 3 ∨ j = 4 by omega) with rfl | rfl | rfl | rfl | rfl <;> rfl
theorem mix_get {a b : List Int} (ha : a.length = 5) (hb : b.length = 5) {j : Nat} (hj : j < 5) : (mixL a b j).getD j 0 = a.getD j 0 := by
  obtain ⟨a0, a1, a2, a3, a4, rfl⟩ := list5 ha
  obtain ⟨b0, b1, b2, b3, b4, rfl⟩ := list5 hb
  rcases (show j = 0 ∨ j = 1 ∨ j = 2 ∨ j = 3 ∨ j = 4 by omega) with rfl | rfl | rfl | rfl | rfl <;> rfl
theorem u_size : (Try.prog.info? 40).map (·.size) = some 1 := by kernel_rfl
theorem u_info : ∃ i, Try.prog.info? 40 = some i ∧ i.size = 1 := by
  obtain ⟨i, h1, h2⟩ := Option.map_eq_some_iff.1 u_size
  exact ⟨i, h1, h2⟩
theorem mix_full {a b : List Int} (ha : a.length = 5) (hb : b.length = 5) : mixL a b 5 = List.zipWith ad a b := by
  unfold mixL; rw [List.take_of_length_le (by simp [ha, hb]), List.drop_eq_nil_of_le (by simp [ha])]; simp
theorem FR.step {w wr : World} {g : List Int} {j : Nat} (h : FR w g j wr) (hg : g.length = 5) (hj : j < 5) :
    FR w g (j + 1) (wr.setCell ⟨w.heap.size + 1, j, none⟩ (.int .u32 (ad (initH.getD j 0) (g.getD j 0)))) := by
  refine ⟨h.b0.other (by show w.heap.size + 1 ≠ w.heap.size; omega) _, ?_, h.bel.setCell (p := ⟨w.heap.size + 1, j, none⟩) (by show w.heap.size ≤ w.heap.size + 1; omega) _⟩
  rw [← mix_step (by rfl) hg hj]
  exact h.b1.stored j _
set_option maxRecDepth 100000 in
theorem five_any (k n : Nat) (g r : List Int) (w : World) (h : SumAt w k g r n) : Calls Try.prog 53 #[.pointer (some ⟨k, 0, none⟩)] w (FiveRet w g) := by
  obtain ⟨i0, hi0, hz0, hz1, hz2⟩ := info_parts byte_info
  have lk := h.lt
  obtain ⟨a0, a1, a2, a3, a4, hl5⟩ := list5 h.lg
  have H := Lib.hid h
  have L5 := Lib.hid hl5
  have c0 := h.cg (j := 0) (by omega)
  have c1 := h.cg (j := 1) (by omega)
  have c2 := h.cg (j := 2) (by omega)
  have c3 := h.cg (j := 3) (by omega)
  have c4 := h.cg (j := 4) (by omega)
  rw [hl5] at c0 c1 c2 c3 c4
  simp only [List.getD_cons_zero, List.getD_cons_succ] at c0 c1 c2 c3 c4
  have k1 : ¬ k = w.heap.size := by omega
  have k2 : ¬ k = w.heap.size + 1 := by omega
  clear h hl5 hi0 hz0 hz1 hz2
  go_enter Try.func53, Try.ntmps53
  have T1 := Lib.hid u_info
  go_upto_region 3 with fail
  obtain ⟨W, hW⟩ : ∃ W, W = (w.alloc (Obj.cells #[.int .u32 0, .int .u32 0, .int .u32 0, .int .u32 0, .int .u32 0] 71)).alloc (Obj.cells #[.int .u32 1732584193, .int .u32 4023233417, .int .u32 2562383102, .int .u32 271733878, .int .u32 3285377520] 71) := ⟨_, rfl⟩
  rw [← hW]
  have F0 : FR w g 0 W := by
    rw [hW]
    have e1 : (w.alloc (Obj.cells #[.int .u32 0, .int .u32 0, .int .u32 0, .int .u32 0, .int .u32 0] 71)).heap.size = w.heap.size + 1 := alloc_size _ _
    refine ⟨?_, ?_, ?_⟩
    · exact (Arr.new w .u32 71 [0, 0, 0, 0, 0]).alloc _
    · have := Arr.new (w.alloc (Obj.cells #[.int .u32 0, .int .u32 0, .int .u32 0, .int .u32 0, .int .u32 0] 71)) .u32 71 initH
      rw [e1] at this; rw [mix_zero]; exact this
    · exact ((Below.refl _ _).alloc (Nat.le_refl _) _).alloc (by simp) _
  clear hW c0 c1 c2 c3 c4 k1 k2
  go_wp2_with fail
  go_loopw [11] (fun i wr => ∃ j : Nat, j ≤ 5 ∧ i = .int .i64 j ∧ FR w g j wr) (fun i _ => 5 - (intOf i).toNat)
  case atStart => exact ⟨0, by omega, rfl, F0⟩
  case round =>
    obtain ⟨j, hj, rfl, FF⟩ := hrel
    by_cases hlt : j < 5
    · have HS := Lib.hid (FF.step H.out.lg hlt)
      have hv : (#[.int .u32 a0, .int .u32 a1, .int .u32 a2, .int .u32 a3, .int .u32 a4] : Array Value)[j]? = some (.int .u32 (g.getD j 0)) := by
        rw [L5.out]
        rcases (show j = 0 ∨ j = 1 ∨ j = 2 ∨ j = 3 ∨ j = 4 by omega) with rfl | rfl | rfl | rfl | rfl <;> rfl
      have cw := FF.b1.cell (j := j) (by rw [mix_len H.out.lg]; omega)
      rw [mix_get (by rfl) H.out.lg hlt] at cw
      have fw := FF.b1.frozen j
      obtain ⟨i1, hi1, hs1⟩ := T1.out
      have ix : (Instr.index 71 (.agg #[.int .u32 a0, .int .u32 a1, .int .u32 a2, .int .u32 a3, .int .u32 a4]) (.int .i64 (j : Int))).run Try.prog wr = .ok (.int .u32 (g.getD j 0)) wr :=
        Go.Proofs.Ythbgjjfhgbkbdaa.idxC.run_idx wr _ _ 5 .u32 i1 _ j _ Try.underlying71 rfl hi1 hs1 hlt hv
      have hjz : (j : Int) < 5 := by omega
      generalize g.getD j 0 = y at *
      generalize initH.getD j 0 = x at *
      clear FF hv hi1 hs1
      go_wp2_with fail
      go_roundw
      case rel => exact ⟨j + 1, by omega, by go_num, HS.out⟩
      case measure => simp [intOf]; omega
    · have e : j = 5 := by omega
      subst e
      have b1 := FF.b1
      rw [mix_full (by rfl) H.out.lg] at b1
      have hl : (List.zipWith ad initH g).length = 5 := by rw [List.length_zipWith, H.out.lg]; rfl
      have G1 := Lib.hid b1.row
      have G2 := Lib.hid FF.b0.row
      have HL := Lib.hid hl
      have U2 := Lib.hid (show (Try.prog.info? 71).map (·.size) = some (((List.zipWith ad initH g).map (Value.int .u32)).toArray).size by rw [five_info]; simp [H.out.lg, initH])
      have BQ := Lib.hid FF.bel
      clear b1 hl FF hlt hj
      go_wp2_with (first
        | (refine wpList_load_row rfl 71 (.tmp 3) rfl (w.heap.size + 1) rfl _ _ _ _ G1.out Try.underlying71 rfl U2.out ?_)
        | (refine wpList_store_row rfl 71 (.tmp 2) (.tmp 22) rfl w.heap.size _ rfl rfl _ _ G2.out U2.out (by simp [H.out.lg, initH]) (nums_one32 _) ?_))
      refine bodyPost_ret (v := .agg ((List.zipWith ad initH g).map (Value.int .u32)).toArray) (results_cell_row Try.results53 _ _ w.heap.size _ _ _ _ (by rfl) (setRow_heap _ _ _ _ _ _ G2.out) Try.underlying71 rfl U2.out) rfl ⟨rfl, ?_⟩
      exact BQ.out.trans ⟨rfl, rfl, rfl, by simp, fun z hz => setRow_other _ _ _ _ (by omega)⟩
end Go.Proofs.Ythbgjjfhgbkbdaa.shaC
