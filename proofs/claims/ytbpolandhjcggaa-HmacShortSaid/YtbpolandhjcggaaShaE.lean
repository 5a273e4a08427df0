/-
  The code's sha: a block's eighty numbers.
-/
import Derived.Test.YtbpolandhjcggaaShaD
import Derived.Test.YtbpolandhjcggaaIdx
namespace Go.Proofs.Ytbpolandhjcggaa.shaC
open Go.ChangeShapes Go.WideShapes Go.ChangeAt Go.RowKit
open Go.Proofs.Ytbpolandhjcggaa.memC Go.Proofs.Ytbpolandhjcggaa.genC Go.Proofs.Ytbpolandhjcggaa.shaM Go.Proofs.Ytbpolandhjcggaa.shaN Go.Proofs.Ytbpolandhjcggaa.butC
set_option linter.unusedVariables false
/-- the first r bytes of a number -/
def pw (bs : List Int) (q : Nat) : Nat → Int
  | 0 => 0
  | r + 1 => pw bs q r * 256 + bs.getD (4 * q + r) 0
theorem pw_word (bs : List Int) (q : Nat) : pw bs q 4 = word bs q := by simp only [pw, word, Nat.add_zero]; omega
theorem pw_bd {bs : List Int} (h : ∀ x ∈ bs, Byte x) (q : Nat) (hl : 4 * q + 3 < bs.length) : ∀ r, r ≤ 3 → 0 ≤ pw bs q r ∧ pw bs q r < 16777216 := by
  have y0 := getD_byte h (k := 4 * q) (by omega)
  have y1 := getD_byte h (k := 4 * q + 1) (by omega)
  have y2 := getD_byte h (k := 4 * q + 2) (by omega)
  unfold Byte at y0 y1 y2
  intro r hr
  rcases (show r = 0 ∨ r = 1 ∨ r = 2 ∨ r = 3 by omega) with rfl | rfl | rfl | rfl <;> simp only [pw, Nat.add_zero] <;> omega
/-- the numbers behind i bytes -/
def accW (bs : List Int) (i : Nat) : List Int := (List.range 80).map fun q => pw bs q (min 4 (i - 4 * q))
theorem acc_len (bs : List Int) (i : Nat) : (accW bs i).length = 80 := by simp [accW]
theorem acc_at (bs : List Int) (i q : Nat) (hq : q < 80) : (accW bs i)[q]? = some (pw bs q (min 4 (i - 4 * q))) := by simp [accW, hq]
theorem acc_get (bs : List Int) (i : Nat) (hi : i < 64) : (accW bs i).getD (i / 4) 0 = pw bs (i / 4) (i % 4) := by
  rw [List.getD_eq_getElem?_getD, acc_at bs i _ (by omega), show min 4 (i - 4 * (i / 4)) = i % 4 by omega]; rfl
theorem acc_set (bs : List Int) (i : Nat) (hi : i < 64) : (accW bs i).set (i / 4) (pw bs (i / 4) (i % 4) * 256 + bs.getD i 0) = accW bs (i + 1) := by
  apply List.ext_getElem?
  intro j
  rw [List.getElem?_set]
  by_cases hj : j < 80
  · rw [acc_at bs (i + 1) j hj, acc_at bs i j hj, acc_len]
    by_cases e : i / 4 = j
    · subst e
      have e1 : min 4 (i + 1 - 4 * (i / 4)) = i % 4 + 1 := by omega
      have e2 : 4 * (i / 4) + i % 4 = i := by omega
      rw [if_pos rfl, if_pos hj, e1, pw, e2]
    · have e1 : min 4 (i + 1 - 4 * j) = min 4 (i - 4 * j) := by omega
      rw [if_neg e, e1]
  · have h1 : (accW bs (i + 1))[j]? = none := List.getElem?_eq_none (by rw [acc_len]; omega)
    have h2 : (accW bs i)[j]? = none := List.getElem?_eq_none (by rw [acc_len]; omega)
    rw [h1, h2, if_neg (by omega)]
theorem acc_zero (bs : List Int) : accW bs 0 = List.replicate 80 0 := by
  apply List.ext_getElem?
  intro j
  by_cases hj : j < 80
  · rw [acc_at bs 0 j hj, List.getElem?_replicate, if_pos hj, Nat.zero_sub]; rfl
  · rw [List.getElem?_eq_none (by rw [acc_len]; omega), List.getElem?_eq_none (by simp; omega)]
theorem sched_words (bs : List Int) : ∀ t, t ≤ 16 → sched bs t = (List.range t).map (word bs)
  | 0, _ => rfl
  | t + 1, h => by
    rw [sched, sched_words bs t (by omega), nextW, if_pos (by omega), List.range_succ, List.map_append]; rfl
theorem acc_full (bs : List Int) : accW bs 64 = sched bs 16 ++ List.replicate (80 - 16) 0 := by
  apply List.ext_getElem?
  intro j
  rw [sched_words bs 16 (Nat.le_refl _)]
  by_cases hj : j < 80
  · rw [acc_at bs 64 j hj]
    by_cases h16 : j < 16
    · rw [List.getElem?_append_left (by simpa using h16), List.getElem?_map, List.getElem?_range h16, show min 4 (64 - 4 * j) = 4 by omega, pw_word]; rfl
    · rw [List.getElem?_append_right (by simp; omega), List.getElem?_replicate, if_pos (by simp; omega), show min 4 (64 - 4 * j) = 0 by omega]; rfl
  · rw [List.getElem?_eq_none (by rw [acc_len]; omega), List.getElem?_eq_none (by simp; omega)]
/-- a byte laid behind -/
theorem or_byte {x c : Int} (h0 : 0 ≤ x) (h1 : x < 16777216) (hc : Byte c) : bits .or .u32 (x * 256) c = x * 256 + c := by
  obtain ⟨c0, c1⟩ := hc
  rw [Go.u32_or _ _ (by omega) (by omega) c0 (by omega)]
  obtain ⟨X, rfl⟩ := Int.eq_ofNat_of_zero_le h0
  obtain ⟨C, rfl⟩ := Int.eq_ofNat_of_zero_le c0
  have e1 : ((X : Int) * 256).toNat = X <<< 8 := by rw [Nat.shiftLeft_eq]; omega
  have e2 : ((C : Int)).toNat = C := by omega
  rw [e1, e2, ← Nat.shiftLeft_add_eq_or_of_lt (by omega : C < 2 ^ 8), Nat.shiftLeft_eq]
  omega
/-- the blocks that a call of spread lays -/
structure SR (w : World) (ws : List Int) (wr : World) : Prop where
  b1 : Arr .u32 53 wr (w.heap.size + 1) (List.replicate 80 0)
  b2 : Arr .u32 53 wr (w.heap.size + 1 + 1) ws
  bel : Below w.heap.size w wr
theorem SR.heap {w wr w' : World} {ws : List Int} (B : SR w ws wr) (e : w'.heap = wr.heap) (e1 : w'.os = wr.os) (e2 : w'.tape = wr.tape) (e3 : w'.output = wr.output) : SR w ws w' :=
  ⟨B.b1.heap e, B.b2.heap e, B.bel.trans ⟨e1, e2, e3, by rw [e]; exact Nat.le_refl _, fun k _ => by rw [e]⟩⟩
theorem SR.w {w wr : World} {ws : List Int} (B : SR w ws wr) (j : Nat) (x : Int) : SR w (ws.set j x) (wr.setCell ⟨w.heap.size + 1 + 1, j, none⟩ (.int .u32 x)) :=
  ⟨B.b1.other (by show w.heap.size + 1 + 1 ≠ w.heap.size + 1; omega) _, B.b2.stored j x, B.bel.setCell (p := ⟨w.heap.size + 1 + 1, j, none⟩) (by show w.heap.size ≤ w.heap.size + 1 + 1; omega) _⟩
theorem block_info : (Try.prog.info? 31).map (·.size) = some 64 := by kernel_rfl
theorem eighty_info : (Try.prog.info? 53).map (·.size) = some 80 := by kernel_rfl
theorem nums_one32 (d : List Int) : ((d.map (Value.int .u32)).toArray).all (·.oneCell') = true := by
  rw [Array.all_eq_true_iff_forall_mem]
  intro v hv
  simp at hv
  obtain ⟨z, _, rfl⟩ := hv
  rfl
def SpreadRet (w : World) (bs : List Int) (e : Ending) (w' : World) : Prop := e = .returned (.agg ((sched bs 80).map (Value.int .u32)).toArray) ∧ Below w.heap.size w w'
set_option maxRecDepth 100000 in
set_option maxHeartbeats 1000000 in
theorem spread_any (bs : List Int) (w : World) (hl : bs.length = 64) (hy : ∀ x ∈ bs, Byte x) :
    Calls Try.prog 26 #[.agg (bs.map (Value.int .u8)).toArray] w (SpreadRet w bs) := by
  obtain ⟨Z, hZ⟩ : ∃ Z, Z = ((List.replicate 80 (0 : Int)).map (Value.int .u32)).toArray := ⟨_, rfl⟩
  have hzv := zero80
  rw [← hZ] at hzv
  have HZ := Lib.hid hZ
  clear hZ
  obtain ⟨V, hV⟩ : ∃ V, V = (bs.map (Value.int .u8)).toArray := ⟨_, rfl⟩
  rw [← hV]
  have HV := Lib.hid hV
  have VS : V.size = 64 := by rw [hV]; simp [hl]
  obtain ⟨i0, hi0, hz0, hz1, hz2⟩ := info_parts byte_info
  have T1 := Lib.hid hi0; have T3 := Lib.hid hz1
  clear hi0 hz0 hz1 hz2
  have U1 := Lib.hid (show (Try.prog.info? 31).map (·.size) = some V.size by rw [block_info, VS])
  have HL := Lib.hid hl
  clear hV hl
  go_enter Try.func26, Try.ntmps26
  go_upto_region 2 with fail
  obtain ⟨W, hW⟩ : ∃ W, W = ((w.alloc (Obj.cells V 31)).alloc (Obj.cells Z 53)).alloc (Obj.cells Z 53) := ⟨_, rfl⟩
  rw [← hW]
  have B0 : SR w (accW bs 0) W := by
    rw [hW, acc_zero]
    have e1 : (w.alloc (Obj.cells V 31)).heap.size = w.heap.size + 1 := alloc_size _ _
    have e2 : ((w.alloc (Obj.cells V 31)).alloc (Obj.cells Z 53)).heap.size = w.heap.size + 1 + 1 := by rw [alloc_size, e1]
    refine ⟨?_, ?_, ?_⟩
    · have := (Arr.new (w.alloc (.cells V 31)) .u32 53 (List.replicate 80 0)).alloc (.cells Z 53)
      rw [e1, ← HZ.out] at this; exact this
    · have := Arr.new ((w.alloc (.cells V 31)).alloc (.cells Z 53)) .u32 53 (List.replicate 80 0)
      rw [e2, ← HZ.out] at this; exact this
    · exact (((Below.refl _ _).alloc (Nat.le_refl _) _).alloc (by simp) _).alloc (by simp; omega) _
  have G0 : Hid (W.heap[w.heap.size]? = some (.cells V 31 (0, 0))) := by
    refine Lib.hid ?_
    rw [hW, Below.block ((alloc_below _ _).mono (by simp)) _ (Nat.lt_succ_self _), Below.block (alloc_below _ _) _ (by simp)]
    exact heap_alloc_new w _
  clear hW
  go_wp2_with (first
    | (refine wpList_load_row rfl 31 (.tmp 1) rfl w.heap.size rfl _ _ _ _ G0.out Try.underlying31 rfl U1.out ?_))
  go_loopw [8] (fun i wr => ∃ k : Nat, k ≤ 64 ∧ i = .int .i64 k ∧ SR w (accW bs k) wr) (fun i _ => 64 - (intOf i).toNat)
  case atStart => exact ⟨0, by omega, rfl, B0⟩
  case round =>
    obtain ⟨k, hk, rfl, BB⟩ := hrel
    have HB := Lib.hid BB
    by_cases hlt : k < 64
    · obtain ⟨q, hq⟩ : ∃ q, q = k / 4 := ⟨_, rfl⟩
      have hqz : (k : Int) / 4 = (q : Int) := by omega
      have hq16 : q < 16 := by omega
      have hkz : (k : Int) < 64 := by omega
      have hqz2 : (q : Int) < 80 := by omega
      have cw := BB.b2.cell (j := q) (by rw [acc_len]; omega)
      have fw := BB.b2.frozen q
      rw [hq, acc_get bs k hlt, ← hq] at cw
      have px := pw_bd hy q (by rw [HL.out]; omega) (k % 4) (by omega)
      have hs := acc_set bs k hlt
      rw [← hq] at hs
      have hc := getD_byte hy (k := k) (by rw [HL.out]; exact hlt)
      have hV : V[k]? = some (.int .u8 (bs.getD k 0)) := by rw [HV.out]; simp [List.getD_eq_getElem?_getD, HL.out, hlt]
      generalize pw bs q (k % 4) = x at *
      generalize bs.getD k 0 = c at *
      have e1 := or_byte px.1 px.2 hc
      have e2 : x * 256 % 4294967296 = x * 256 := by omega
      obtain ⟨c0, c1⟩ := hc
      obtain ⟨x0, x1⟩ := px
      have HS := Lib.hid hs
      have ix : (Instr.index 31 (.agg V) (.int .i64 (k : Int))).run Try.prog wr = .ok (.int .u8 c) wr := Go.Proofs.Ytbpolandhjcggaa.idxC.run_idx wr _ _ 64 .u8 i0 V k _ Try.underlying31 rfl T1.out T3.out hlt hV
      clear hs hq BB hV
      go_wp2_with fail
      go_roundw
      case rel =>
        refine ⟨k + 1, by omega, by go_num, ?_⟩
        rw [← HS.out]
        exact HB.out.w q _
      case measure => simp [intOf]; omega
    · have e : k = 64 := by omega
      subst e
      rw [acc_full] at BB
      clear HB hlt hk
      go_wp2_with fail
      go_loopw [6] (fun i wx => ∃ t : Nat, 16 ≤ t ∧ t ≤ 80 ∧ i = .int .i64 t ∧ SR w (sched bs t ++ List.replicate (80 - t) 0) wx) (fun i _ => 80 - (intOf i).toNat)
      case atStart => exact ⟨16, by omega, by omega, rfl, BB⟩
      case round =>
        obtain ⟨t, h16, ht, rfl, BB⟩ := hrel
        have HB := Lib.hid BB
        by_cases hlt : t < 80
        · have hg : ∀ q, 1 ≤ q → q ≤ t → (sched bs t ++ List.replicate (80 - t) 0).getD (t - q) 0 = (sched bs t).getD (t - q) 0 := fun q h1 h2 => by
            rw [List.getD_eq_getElem?_getD, List.getD_eq_getElem?_getD, List.getElem?_append_left (by rw [sched_len]; omega)]
          have hl80 : (sched bs t ++ List.replicate (80 - t) 0).length = 80 := by simp [sched_len]; omega
          have c3 := BB.b2.cell (j := t - 3) (by omega)
          have c8 := BB.b2.cell (j := t - 8) (by omega)
          have c14 := BB.b2.cell (j := t - 14) (by omega)
          have c16 := BB.b2.cell (j := t - 16) (by omega)
          rw [hg 3 (by omega) (by omega)] at c3
          rw [hg 8 (by omega) (by omega)] at c8
          rw [hg 14 (by omega) (by omega)] at c14
          rw [hg 16 (by omega) (by omega)] at c16
          have hw0 := BB.b2.cell (j := t) (by omega)
          have hf0 := BB.b2.frozen t
          obtain ⟨v, hv⟩ : ∃ v, v = (sched bs t ++ List.replicate (80 - t) 0).getD t 0 := ⟨_, rfl⟩
          rw [← hv] at hw0
          have HT := Lib.hid (show sched bs (t + 1) = sched bs t ++ [rol (xo (xo (xo ((sched bs t).getD (t - 3) 0) ((sched bs t).getD (t - 8) 0)) ((sched bs t).getD (t - 14) 0)) ((sched bs t).getD (t - 16) 0)) 1] by
            rw [sched, nextW, if_neg (by omega)])
          generalize (sched bs t).getD (t - 3) 0 = x3 at *
          generalize (sched bs t).getD (t - 8) 0 = x8 at *
          generalize (sched bs t).getD (t - 14) 0 = x14 at *
          generalize (sched bs t).getD (t - 16) 0 = x16 at *
          have RR := Lib.hid (fun w => (rotl_any (xo (xo (xo x3 x8) x14) x16) 1 w (w32_xo _ _) (.inl rfl)).mono (fun e w' h => (show e = .returned (.int .u32 (rol (xo (xo (xo x3 x8) x14) x16) 1)) ∧ ∃ j, w' = w.drewN j from ⟨h.1, 0, h.2.symm⟩)))
          clear hv BB hg hl80
          have hlz : (t : Int) < 80 := by omega
          go_upto_region 10 with fail
          obtain ⟨q3, e3⟩ : ∃ q, q = t - 3 := ⟨_, rfl⟩
          rw [← e3] at c3
          have z3 : (t : Int) - 3 = (q3 : Int) := by omega
          have i3 : IntKind.i64.wrap (q3 : Int) = (q3 : Int) := IntWalk.i64_in _ (by omega)
          have l3 : (q3 : Int) < 80 := by omega
          have n3 : q3 < 80 := by omega
          obtain ⟨q8, e8⟩ : ∃ q, q = t - 8 := ⟨_, rfl⟩
          rw [← e8] at c8
          have z8 : (t : Int) - 8 = (q8 : Int) := by omega
          have i8 : IntKind.i64.wrap (q8 : Int) = (q8 : Int) := IntWalk.i64_in _ (by omega)
          have l8 : (q8 : Int) < 80 := by omega
          have n8 : q8 < 80 := by omega
          obtain ⟨q14, e14⟩ : ∃ q, q = t - 14 := ⟨_, rfl⟩
          rw [← e14] at c14
          have z14 : (t : Int) - 14 = (q14 : Int) := by omega
          have i14 : IntKind.i64.wrap (q14 : Int) = (q14 : Int) := IntWalk.i64_in _ (by omega)
          have l14 : (q14 : Int) < 80 := by omega
          have n14 : q14 < 80 := by omega
          obtain ⟨q16, e16⟩ : ∃ q, q = t - 16 := ⟨_, rfl⟩
          rw [← e16] at c16
          have z16 : (t : Int) - 16 = (q16 : Int) := by omega
          have i16 : IntKind.i64.wrap (q16 : Int) = (q16 : Int) := IntWalk.i64_in _ (by omega)
          have l16 : (q16 : Int) < 80 := by omega
          have n16 : q16 < 80 := by omega
          clear e3 e8 e14 e16
          refine Go.Proofs.Ytbpolandhjcggaa.lastC.wp_region_last 22 (by kernel_rfl) (by kernel_rfl) (by kernel_rfl) (by kernel_rfl) ?_
          simp only [List.take_succ_cons, List.take_zero, List.drop_succ_cons, List.drop_zero]
          repeat (first | go_big_quiet_step ((go_at_call 28; exact Calls.quiet_of (RR.out _))) | quiet_step ((go_at_call 28; exact Calls.quiet_of (RR.out _))))
          refine wpQuiet_nil ?_
          intro w2 hw2
          obtain ⟨n2, hw3⟩ := hw2
          subst hw3
          clear i3 i8 i14 i16 z3 z8 z14 z16 l3 l8 l14 l16 n3 n8 n14 n16
          go_wp2_with fail
          go_roundw
          case rel =>
            refine ⟨t + 1, by omega, by omega, by go_num, ?_⟩
            rw [HT.out, ← set_pad _ t _ (sched_len bs t) hlt]
            exact (HB.out.heap (w' := wr.drewN n2) rfl rfl rfl rfl).w t _
          case measure => simp [intOf]; omega
        · have e : t = 80 := by omega
          subst e
          have e8 : sched bs 80 ++ List.replicate (80 - 80) 0 = sched bs 80 := by simp
          rw [e8] at BB
          have hlS := sched_len bs 80
          have G1 := Lib.hid BB.b2.row
          have G2 := Lib.hid BB.b1.row
          have HF := Lib.hid hlS
          have U2 := Lib.hid (show (Try.prog.info? 53).map (·.size) = some (((sched bs 80).map (Value.int .u32)).toArray).size by rw [eighty_info]; simp [hlS])
          have BQ := Lib.hid BB.bel
          clear e8 hlt hlS HB BB h16 ht
          go_wp2_with (first
            | (refine wpList_load_row rfl 53 (.tmp 3) rfl (w.heap.size + 1 + 1) rfl _ _ _ _ G1.out Try.underlying53 rfl U2.out ?_)
            | (refine wpList_store_row rfl 53 (.tmp 2) (.tmp 50) rfl (w.heap.size + 1) _ rfl rfl _ _ G2.out U2.out (by simp [HF.out]) (nums_one32 _) ?_))
          refine bodyPost_ret (v := .agg ((sched bs 80).map (Value.int .u32)).toArray) (results_cell_row Try.results26 _ _ (w.heap.size + 1) _ _ _ _ (by rfl) (setRow_heap _ _ _ _ _ _ G2.out) Try.underlying53 rfl U2.out) rfl ⟨rfl, ?_⟩
          exact BQ.out.trans ⟨rfl, rfl, rfl, by simp, fun z hz => setRow_other _ _ _ _ (by omega)⟩
end Go.Proofs.Ytbpolandhjcggaa.shaC
