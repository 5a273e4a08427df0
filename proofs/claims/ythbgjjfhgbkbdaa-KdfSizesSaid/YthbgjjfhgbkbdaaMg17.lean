/-
  1 texts of a proof, joined.
-/
import Derived.Test.YthbgjjfhgbkbdaaMg14
import Derived.Test.YthbgjjfhgbkbdaaMg16

/-
  CMAC: the document's Double; a key's two blocks, the code's and the document's.
-/
namespace Go.Proofs.Ythbgjjfhgbkbdaa.aesC
open Go.ChangeShapes Go.WideShapes Go.ChangeAt Go.RowKit
open Go.Proofs.Ythbgjjfhgbkbdaa.memC Go.Proofs.Ythbgjjfhgbkbdaa.genC Go.Proofs.Ythbgjjfhgbkbdaa.aesM Go.Proofs.Ythbgjjfhgbkbdaa.butC Go.Proofs.Ythbgjjfhgbkbdaa.freeC
set_option linter.unusedVariables false
theorem results_cell_row2 {P : Program} {fn : Func} {p q : Tmp} {ty ty2 : TypeId} (h : fn.results = #[.cell p ty, .cell q ty2]) (tmps : Array Value) (w : World) (g g2 : Nat) (t t2 : TypeId) (cs cs2 : Array Value) (fr fr2 : Nat × Nat) (d d2 : TypeDesc)
    (hp : tmps.getD p undef = .pointer (some ⟨g, 0, none⟩)) (hg : w.heap[g]? = some (.cells cs t fr)) (hu : P.underlying ty = some d) (hd : (match d with | .struct _ | .array _ _ => true | _ => false) = true) (hi : (P.info? ty).map (·.size) = some cs.size)
    (hp2 : tmps.getD q undef = .pointer (some ⟨g2, 0, none⟩)) (hg2 : w.heap[g2]? = some (.cells cs2 t2 fr2)) (hu2 : P.underlying ty2 = some d2) (hd2 : (match d2 with | .struct _ | .array _ _ => true | _ => false) = true) (hi2 : (P.info? ty2).map (·.size) = some cs2.size) :
    (results fn tmps).run P w = .ok (.tuple #[.agg cs, .agg cs2]) w := by
  have hp' : tmps[p]?.getD undef = .pointer (some ⟨g, 0, none⟩) := by simpa using hp
  have hp2' : tmps[q]?.getD undef = .pointer (some ⟨g2, 0, none⟩) := by simpa using hp2
  simp [results, h, hp', hp2', asAddr, run_loadVar_row w g t ty cs fr d hg hu hd hi, run_loadVar_row w g2 t2 ty2 cs2 fr2 d2 hg2 hu2 hd2 hi2]
theorem low_high {x y : Nat} (h : 128 ≤ y) (hy : y < 256) (u : Nat) (hu : u = x * 2 % 256) : u + 1 = x * 2 % 256 + y / 128 := by omega
set_option maxRecDepth 100000 in
set_option maxHeartbeats 1000000 in
theorem rdouble_any (a : List Nat) (w : World) (ha : a.length = 16) (ya : BY a) :
    Calls Try.prog 58 #[.agg (vec a)] w (Ret w (.agg (vec (dL a)))) := by
  have T0 := Lib.hid (b3_new w a (zs 16) (zs 16))
  obtain ⟨X, hX⟩ : ∃ X, X = vec a := ⟨_, rfl⟩
  obtain ⟨Z, hZ⟩ : ∃ Z, Z = vec (zs 16) := ⟨_, rfl⟩
  rw [← hX]
  have hzv := zero16
  rw [← hZ] at hzv
  obtain ⟨W, hW⟩ : ∃ W, W = ((w.alloc (.cells X 32)).alloc (.cells Z 32)).alloc (.cells Z 32) := ⟨_, rfl⟩
  have T1 : Hid (B3 w a (zs 16) (zs 16) W) := Lib.hid (by rw [hW, hX, hZ]; exact T0.out)
  have L1 := Lib.hid ha
  have U1 := Lib.hid (show (Try.prog.info? 32).map (·.size) = some (vec (dL a)).size by rw [b16_info, vec_size, dL_len])
  clear T0 ha hX hZ
  go_enter Try.func58, Try.ntmps58
  go_upto_region 2 with fail
  rw [← hW]
  clear hW hzv
  go_wp2_with fail
  go_loopw [4] (fun i wr => ∃ k : Nat, k ≤ 16 ∧ i = .int .i64 k ∧ B3 w a (zs 16) (mixP (lowL a) (zs 16) k) wr) (fun i _ => 16 - (intOf i).toNat)
  case atStart => exact ⟨0, by omega, rfl, by rw [mixP_zero]; exact T1.out⟩
  case round =>
    obtain ⟨k, hk, rfl, BB⟩ := hrel
    have hlen : (lowL a).length = (zs 16).length := by rw [lowL_len, zs_len]
    have HB := Lib.hid BB
    by_cases hlt : k < 16
    · have hkz : (k : Int) < 16 := by omega
      have c0 := BB.b0.cell (j := k) (by rw [L1.out]; exact hlt)
      have c2 := BB.b2.cell (j := k) (by rw [mixP_len hlen, zs_len]; exact hlt)
      have f2 := BB.b2.frozen k
      have y0 := ya.at k
      have hxe : (lowL a).getD k 0 = a.getD k 0 * 2 % 256 + a.getD (k + 1) 0 / 128 := getD_map hlt
      have YY := Lib.hid (ya.at (k + 1))
      have HN := Lib.hid (mixP_set (xs := lowL a) (ys := zs 16) (j := k) hlen (by rw [zs_len]; exact hlt))
      rw [hxe] at HN
      obtain ⟨y, hy⟩ : ∃ y, y = a.getD (k + 1) 0 := ⟨_, rfl⟩
      obtain ⟨x, hx⟩ : ∃ x, x = a.getD k 0 := ⟨_, rfl⟩
      rw [← hx, ← hy] at HN
      rw [← hx] at c0 y0
      rw [← hy] at YY
      have HY := Lib.hid hy
      obtain ⟨u, hu⟩ : ∃ u, u = x * 2 % 256 := ⟨_, rfl⟩
      rw [← hu] at HN
      have huz : (x : Int) * 2 % 256 = (u : Int) := by omega
      have hst := HB.out.s2 k u
      have HU := Lib.hid hu
      have hub : (u : Int) ≤ 254 := by omega
      obtain ⟨old, ho⟩ : ∃ old, old = (mixP (lowL a) (zs 16) k).getD k 0 := ⟨_, rfl⟩
      rw [← ho] at c2
      clear BB hxe hx hu ho hy
      go_upto_region 6 with fail
      generalize wr.setCell ⟨w.heap.size + 1 + 1, k, none⟩ (.int .u8 (u : Int)) = w6 at *
      have H6 := Lib.hid hst
      clear c0 c2 f2 y0 huz hst
      by_cases h15 : k < 15
      · have h15z : (k : Int) < 15 := by omega
        obtain ⟨k1, hk1⟩ : ∃ k1, k1 = k + 1 := ⟨_, rfl⟩
        have hk1z : (k : Int) + 1 = (k1 : Int) := by omega
        have hk16 : (k1 : Int) < 16 := by omega
        have c1 := H6.out.b0.cell (j := k1) (by rw [L1.out]; omega)
        rw [hk1, ← HY.out, ← hk1] at c1
        have HK1 := Lib.hid hk1
        have yb := YY.out
        clear hk1
        by_cases hh : 128 ≤ y
        · have hhz : (128 : Int) ≤ (y : Int) := by omega
          obtain ⟨u1, hu1⟩ : ∃ u1, u1 = u + 1 := ⟨_, rfl⟩
          have hu1z : (u : Int) + 1 = (u1 : Int) := by omega
          have hu1b : (u1 : Int) ≤ 255 := by omega
          have c2 := H6.out.b2.cell (j := k) (by rw [List.length_set, mixP_len hlen, zs_len]; exact hlt)
          rw [List.getD_eq_getElem?_getD, List.getElem?_set_self (by rw [mixP_len hlen, zs_len]; exact hlt)] at c2
          change w6.cell? ⟨w.heap.size + 1 + 1, k, none⟩ = some (.int .u8 (u : Int)) at c2
          have f2 := H6.out.b2.frozen k
          have hst := H6.out.s2 k u1
          have hN2 : (mixP (lowL a) (zs 16) k).set k u1 = mixP (lowL a) (zs 16) (k + 1) := by rw [← HN.out]; congr 1; omega
          rw [List.set_set, hN2] at hst
          have HS := Lib.hid hst
          clear hst hlen hu1 hN2
          go_wp2_with fail
          go_roundw
          case rel => exact ⟨k + 1, by omega, by go_num, HS.out⟩
          case measure => simp [intOf]; omega
        · have hhz : ¬ (128 : Int) ≤ (y : Int) := by omega
          have HS : Hid (B3 w a (zs 16) (mixP (lowL a) (zs 16) (k + 1)) w6) := Lib.hid (by
            rw [← HN.out, show y / 128 = 0 by omega]; exact H6.out)
          clear hlen
          go_wp2_with fail
          go_roundw
          case rel => exact ⟨k + 1, by omega, by go_num, HS.out⟩
          case measure => simp [intOf]; omega
      · have h15z : ¬ (k : Int) < 15 := by omega
        have HS : Hid (B3 w a (zs 16) (mixP (lowL a) (zs 16) (k + 1)) w6) := Lib.hid (by
          rw [← HN.out, show y = 0 by rw [HY.out]; exact getD_out (by rw [L1.out]; omega)]; exact H6.out)
        clear hlen
        go_wp2_with fail
        go_roundw
        case rel => exact ⟨k + 1, by omega, by go_num, HS.out⟩
        case measure => simp [intOf]; omega
    · have e : k = 16 := by omega
      subst e
      have hf : mixP (lowL a) (zs 16) 16 = lowL a := mixP_full hlen
      rw [hf] at BB
      have H0 := Lib.hid BB
      have c0 := BB.b0.cell (j := 0) (by rw [L1.out]; decide)
      have y0 := ya.at 0
      obtain ⟨x, hx⟩ : ∃ x, x = a.getD 0 0 := ⟨_, rfl⟩
      rw [← hx] at c0 y0
      have HX := Lib.hid hx
      have hlow : (lowL a).getD 15 0 = a.getD 15 0 * 2 % 256 := (getD_map (f := low a) (n := 16) (j := 15) (by decide)).trans (low_last L1.out)
      have HLOW := Lib.hid hlow
      clear BB HB hlen hf hlt hk hx hlow
      by_cases hh : 128 ≤ x
      · have hhz : (128 : Int) ≤ (x : Int) := by omega
        have c15 := H0.out.b2.cell (j := 15) (by rw [lowL_len]; decide)
        have f15 := H0.out.b2.frozen 15
        have hst := H0.out.s2 15 (topB a)
        have e2 : (lowL a).set 15 (topB a) = dL a := rfl
        rw [e2] at hst
        have hx : bits .xor .u8 (((lowL a).getD 15 0 : Nat) : Int) 135 = ((topB a : Nat) : Int) := by
          have := xor_b (a := (lowL a).getD 15 0) (b := 135) (by rw [HLOW.out]; exact Nat.mod_lt _ (by decide)) (by decide)
          rw [show ((135 : Nat) : Int) = 135 from rfl] at this
          rw [this, HLOW.out]
          unfold topB
          rw [← HX.out, show x / 128 = 1 by omega]
        have HT := Lib.hid hst
        generalize (lowL a).getD 15 0 = z at *
        generalize topB a = t at *
        clear hst e2
        go_upto_region 10 with fail
        generalize wr.setCell ⟨w.heap.size + 1 + 1, 15, none⟩ (.int .u8 (t : Int)) = w8 at *
        have G1 := Lib.hid HT.out.b2.row
        have G2 := Lib.hid HT.out.b1.row
        have BQ := Lib.hid HT.out.bel
        clear hx c15 f15 c0
        go_wp2_with (first
          | (refine wpList_load_row rfl 32 (.tmp 3) rfl (w.heap.size + 1 + 1) rfl _ _ _ _ G1.out Try.underlying32 rfl U1.out ?_)
          | (refine wpList_store_row rfl 32 (.tmp 2) (.tmp 36) rfl (w.heap.size + 1) _ rfl rfl _ _ G2.out U1.out (by rw [vec_size, vec_size, dL_len]; rfl) (vec_one _) ?_))
        refine bodyPost_ret (v := .agg (vec (dL a))) (results_cell_row Try.results58 _ _ (w.heap.size + 1) _ _ _ _ (by rfl) (setRow_heap _ _ _ _ _ _ G2.out) Try.underlying32 rfl U1.out) rfl ⟨rfl, ?_⟩
        exact below_setRow BQ.out (by omega) _
      · have hhz : ¬ (128 : Int) ≤ (x : Int) := by omega
        have e2 : dL a = lowL a := by
          unfold dL topB
          rw [← HX.out, show x / 128 = 0 by omega, Nat.zero_mul, Nat.xor_zero, ← HLOW.out]
          refine getD_ext (by rw [List.length_set]) fun i hi => ?_
          by_cases e : i = 15
          · subst e
            rw [List.getD_eq_getElem?_getD, List.getElem?_set_self (by rw [lowL_len]; decide)]; rfl
          · rw [List.getD_eq_getElem?_getD, List.getElem?_set_ne (fun h => e h.symm), ← List.getD_eq_getElem?_getD]
        have G1 := Lib.hid H0.out.b2.row
        rw [← e2] at G1
        have G2 := Lib.hid H0.out.b1.row
        have BQ := Lib.hid H0.out.bel
        clear e2
        go_wp2_with (first
          | (refine wpList_load_row rfl 32 (.tmp 3) rfl (w.heap.size + 1 + 1) rfl _ _ _ _ G1.out Try.underlying32 rfl U1.out ?_)
          | (refine wpList_store_row rfl 32 (.tmp 2) (.tmp 36) rfl (w.heap.size + 1) _ rfl rfl _ _ G2.out U1.out (by rw [vec_size, vec_size, dL_len]; rfl) (vec_one _) ?_))
        refine bodyPost_ret (v := .agg (vec (dL a))) (results_cell_row Try.results58 _ _ (w.heap.size + 1) _ _ _ _ (by rfl) (setRow_heap _ _ _ _ _ _ G2.out) Try.underlying32 rfl U1.out) rfl ⟨rfl, ?_⟩
        exact below_setRow BQ.out (by omega) _
/-- while a key's two blocks are given back -/
structure JB (w0 : World) (g4 : Nat) (O T Z : Array Value) (m : Nat → Bool) (us : Nat → Value) (w : World) : Prop where
  r4 : w.heap[g4]? = some (.cells O 32 (0, 0))
  r2 : w.heap[w0.heap.size + 1]? = some (.cells (if m 3 then O else Z) 32 (0, 0))
  r3 : w.heap[w0.heap.size + 1 + 1]? = some (.cells (if m 4 then T else Z) 32 (0, 0))
  v0 : m 0 = true → us 0 = .agg O
  v1 : m 1 = true → us 1 = .agg O
  v2 : m 2 = true → us 2 = .agg T
  bel : Below w0.heap.size w0 w
  lt : w0.heap.size + 1 + 1 < g4
section
variable {w0 w w' : World} {g4 : Nat} {O T Z : Array Value} {m : Nat → Bool} {us : Nat → Value}
theorem row_lt2 {w : World} {g : Nat} {o : Obj} (h : w.heap[g]? = some o) : g < w.heap.size := (Array.getElem?_eq_some_iff.1 h).1
theorem JB.val (h : JB w0 g4 O T Z m us w) (i : Nat) (hi : i < 3) (v : Value) (hv : v = (match i with | 0 => .agg O | 1 => .agg O | _ => .agg T)) (hb : Below w.heap.size w w') : JB w0 g4 O T Z (upd m i true) (upd us i v) w' := by
  have e3 : upd m i true 3 = m 3 := upd_other _ _ (by omega)
  have e4 : upd m i true 4 = m 4 := upd_other _ _ (by omega)
  refine ⟨by rw [hb.block _ (row_lt2 h.r4)]; exact h.r4, by rw [hb.block _ (row_lt2 h.r2), e3]; exact h.r2, by rw [hb.block _ (row_lt2 h.r3), e4]; exact h.r3, ?_, ?_, ?_, h.bel.trans (hb.mono h.bel.size), h.lt⟩
  · intro hm
    by_cases e : i = 0
    · subst e; rw [upd_same]; exact hv
    · rw [upd_other _ _ (fun h => e h.symm)] at hm ⊢; exact h.v0 hm
  · intro hm
    by_cases e : i = 1
    · subst e; rw [upd_same]; exact hv
    · rw [upd_other _ _ (fun h => e h.symm)] at hm ⊢; exact h.v1 hm
  · intro hm
    by_cases e : i = 2
    · subst e; rw [upd_same]; exact hv
    · rw [upd_other _ _ (fun h => e h.symm)] at hm ⊢; exact h.v2 hm
theorem JB.s2 (h : JB w0 g4 O T Z m us w) : JB w0 g4 O T Z (upd m 3 true) (upd us 3 undef) (w.setRow (w0.heap.size + 1) O) := by
  have hl := h.lt
  refine ⟨by rw [setRow_other _ _ _ _ (by omega)]; exact h.r4, by rw [upd_same, if_pos rfl]; exact setRow_heap _ _ _ _ _ _ h.r2, ?_, fun hm => ?_, fun hm => ?_, fun hm => ?_, below_setRow h.bel (by omega) _, hl⟩
  · rw [setRow_other _ _ _ _ (by omega), upd_other _ _ (by omega)]; exact h.r3
  · rw [upd_other _ _ (by omega)] at hm ⊢; exact h.v0 hm
  · rw [upd_other _ _ (by omega)] at hm ⊢; exact h.v1 hm
  · rw [upd_other _ _ (by omega)] at hm ⊢; exact h.v2 hm
theorem JB.s3 (h : JB w0 g4 O T Z m us w) : JB w0 g4 O T Z (upd m 4 true) (upd us 4 undef) (w.setRow (w0.heap.size + 1 + 1) T) := by
  have hl := h.lt
  refine ⟨by rw [setRow_other _ _ _ _ (by omega)]; exact h.r4, ?_, by rw [upd_same, if_pos rfl]; exact setRow_heap _ _ _ _ _ _ h.r3, fun hm => ?_, fun hm => ?_, fun hm => ?_, below_setRow h.bel (by omega) _, hl⟩
  · rw [setRow_other _ _ _ _ (by omega), upd_other _ _ (by omega)]; exact h.r2
  · rw [upd_other _ _ (by omega)] at hm ⊢; exact h.v0 hm
  · rw [upd_other _ _ (by omega)] at hm ⊢; exact h.v1 hm
  · rw [upd_other _ _ (by omega)] at hm ⊢; exact h.v2 hm
end
def tabCB : List (Option Nat) := [none, none, none, none, none, none, none, none, none, none, some 0, some 1, some 2]
set_option maxRecDepth 100000 in
set_option maxHeartbeats 1000000 in
theorem cblocks_any (k : List Nat) (w : World) (hk : k.length = 16) (yk : BY k) :
    Calls Try.prog 41 #[.agg (vec k)] w (Ret w (.tuple #[.agg (vec (oneL k)), .agg (vec (twoL k))])) := by
  obtain ⟨X, hX⟩ : ∃ X, X = vec k := ⟨_, rfl⟩
  obtain ⟨Z, hZ⟩ : ∃ Z, Z = vec (zs 16) := ⟨_, rfl⟩
  obtain ⟨E, hE⟩ : ∃ E, E = vec (encL k (zs 16)) := ⟨_, rfl⟩
  obtain ⟨O, hO⟩ : ∃ O, O = vec (oneL k) := ⟨_, rfl⟩
  obtain ⟨T, hT⟩ : ∃ T, T = vec (twoL k) := ⟨_, rfl⟩
  have hzv := zero16
  rw [← hZ] at hzv
  have hzb := Lib.hid zero16_built
  rw [← hZ] at hzb
  have NW := Lib.hid (fun w => new_any k w hk)
  rw [← hX] at NW
  have EN := Lib.hid (fun w => encrypt_any k (zs 16) w hk yk (zs_len 16) (zs_by 16))
  rw [← hX, ← hZ, ← hE] at EN
  have DE := Lib.hid (fun w => cdouble_any (encL k (zs 16)) w (encL_len _ _) (encL_by yk hk _))
  rw [show dL (encL k (zs 16)) = oneL k from rfl, ← hE, ← hO] at DE
  have DO := Lib.hid (fun w => cdouble_any (oneL k) w (oneL_len _) (oneL_by yk hk))
  rw [show dL (oneL k) = twoL k from rfl, ← hO, ← hT] at DO
  have UX := Lib.hid (show (Try.prog.info? 32).map (·.size) = some X.size by rw [hX]; exact vec_info hk)
  have UO := Lib.hid (show (Try.prog.info? 32).map (·.size) = some O.size by rw [hO]; exact vec_info (oneL_len _))
  have UT := Lib.hid (show (Try.prog.info? 32).map (·.size) = some T.size by rw [hT]; exact vec_info (twoL_len _))
  have OO := Lib.hid (show O.all (·.oneCell') = true by rw [hO]; exact vec_one _)
  have OT := Lib.hid (show T.all (·.oneCell') = true by rw [hT]; exact vec_one _)
  have ZO := Lib.hid (show Z.size = O.size by rw [hZ, hO, vec_size, vec_size, zs_len, oneL_len])
  have ZT := Lib.hid (show Z.size = T.size by rw [hZ, hT, vec_size, vec_size, zs_len, twoL_len])
  have e1 : (w.alloc (.cells X 32)).heap.size = w.heap.size + 1 := alloc_size _ _
  have e2 : ((w.alloc (.cells X 32)).alloc (.cells Z 32)).heap.size = w.heap.size + 1 + 1 := by rw [alloc_size, e1]
  obtain ⟨W, hW⟩ : ∃ W, W = ((w.alloc (.cells X 32)).alloc (.cells Z 32)).alloc (.cells Z 32) := ⟨_, rfl⟩
  have R1 := Lib.hid (show W.heap[w.heap.size]? = some (.cells X 32 (0, 0)) by
    rw [hW, Below.block (alloc_below _ _) _ (by rw [e2]; omega), Below.block (alloc_below _ _) _ (by rw [e1]; omega)]; exact heap_alloc_new w _)
  have R2 := Lib.hid (show W.heap[w.heap.size + 1]? = some (.cells Z 32 (0, 0)) by
    rw [hW, Below.block (alloc_below _ _) _ (by rw [e2]; omega), ← e1]; exact heap_alloc_new _ _)
  have R3 := Lib.hid (show W.heap[w.heap.size + 1 + 1]? = some (.cells Z 32 (0, 0)) by rw [hW, ← e2]; exact heap_alloc_new _ _)
  have BW := Lib.hid (show Below w.heap.size w W by rw [hW]; exact (((Below.refl _ _).alloc (Nat.le_refl _) _).alloc (by simp) _).alloc (by simp; omega) _)
  have EW := Lib.hid (show W.heap.size = w.heap.size + 1 + 1 + 1 by rw [hW, alloc_size, e2])
  rw [← hX, ← hO, ← hT]
  clear hX hZ hE hO hT e1 e2 hk yk
  go_enter Try.func41, Try.ntmps41
  go_upto_region 1 with fail
  rw [← hW]
  clear hW
  go_upto_region 2 with (first
    | (refine wpList_load_row rfl 32 (.tmp 1) rfl w.heap.size rfl _ _ _ _ R1.out Try.underlying32 rfl UX.out ?_)
    | (refine wpList_zero rfl 32 rfl _ hzb.out ?_)
    | (go_at_call 39; (with_reducible refine (NW.out _).mono ?_); rintro e w6 ⟨rfl, B6⟩)
    | (go_at_call 55; (with_reducible refine (EN.out _).mono ?_); rintro e w8 ⟨rfl, B8⟩)
    | (go_at_call 54; (with_reducible refine (DE.out _).mono ?_); rintro e w9 ⟨rfl, B9⟩)
    | (refine wpList_store_row rfl 32 (.tmp 4) (.tmp 9) rfl w9.heap.size _ rfl rfl _ _ (heap_alloc_new _ _) UO.out ZO.out OO.out ?_))
  rw [World.setRow_alloc_new]
  have BQ : Below W.heap.size W w9 := (B6.trans (B8.mono B6.size)).trans (B9.mono (Nat.le_trans B6.size B8.size))
  have J0 : JB w w9.heap.size O T Z (fun _ => false) (fun _ => undef) (w9.alloc (.cells O 32)) := by
    have hs := BQ.size
    have h1 := EW.out
    refine ⟨heap_alloc_new _ _, ?_, ?_, fun h => (by cases h), fun h => (by cases h), fun h => (by cases h), (BW.out.trans (BQ.mono (by omega))).alloc (by omega) _, by omega⟩
    · rw [Below.block (alloc_below _ _) _ (by omega), BQ.block _ (by omega)]; exact R2.out
    · rw [Below.block (alloc_below _ _) _ (by omega), BQ.block _ (by omega)]; exact R3.out
  generalize w9.alloc (.cells O 32) = w10 at *
  generalize w9.heap.size = g4 at *
  have HJ0 := Lib.hid J0
  clear J0 BQ B6 B8 B9 NW EN R1 R2 R3 BW EW DE hzv
  refine with_act fun a0 ha0 => ?_
  have hl : tabCB.length = a0.tmps.size := by rw [ha0]; rfl
  have k2 : a0.tmps[2]?.getD undef = .pointer (some ⟨w.heap.size + 1, 0, none⟩) := by rw [ha0]; rfl
  have k3 : a0.tmps[3]?.getD undef = .pointer (some ⟨w.heap.size + 1 + 1, 0, none⟩) := by rw [ha0]; rfl
  have k4 : a0.tmps[4]?.getD undef = .pointer (some ⟨g4, 0, none⟩) := by rw [ha0]; rfl
  refine wp_region_J (by kernel_rfl) tabCB (by kernel_rfl) (by kernel_rfl) hl (fun i => a0.tmps[i + 10]?.getD undef) (by rw [ha0]; rfl) (JB w g4 O T Z) ?_ ⟨?_, ?_, ?_, ?_, ?_, trivial⟩ ?_
  · exact ⟨HJ0.out.r4, HJ0.out.r2, HJ0.out.r3, fun h => (by cases h), fun h => (by cases h), fun h => (by cases h), HJ0.out.bel.drew, HJ0.out.lt⟩
  · refine stepJ [] (by kernel_rfl) rfl fun m us w' hJ hmi hd => ?_
    have o4 := (frame_old2 (us := us) (a := a0) (show (tabCB[4]?).join = none from rfl)).trans k4
    have hg := hJ.r4
    generalize frame tabCB a0 us = fr at *
    exact load_J 32 4 rfl g4 o4 _ O (0, 0) _ hg Try.underlying32 rfl UO.out (hJ.val 0 (by omega) _ rfl (Below.refl _ _))
  · refine stepJ [] (by kernel_rfl) rfl fun m us w' hJ hmi hd => ?_
    have o4 := (frame_old2 (us := us) (a := a0) (show (tabCB[4]?).join = none from rfl)).trans k4
    have hg := hJ.r4
    generalize frame tabCB a0 us = fr at *
    exact load_J 32 4 rfl g4 o4 _ O (0, 0) _ hg Try.underlying32 rfl UO.out (hJ.val 1 (by omega) _ rfl (Below.refl _ _))
  · refine stepJ [1] (by kernel_rfl) rfl fun m us w' hJ hmi hd => ?_
    have v1 := (frame_at2 (us := us) hl (show (tabCB[11]?).join = some 1 from rfl)).trans (hJ.v1 (hd 1 (by simp)))
    generalize frame tabCB a0 us = fr at *
    exact call_J (f := 54) (args := #[.agg O]) (by go_simp) ((DO.out w').mono fun e w'' h => ⟨_, h.1, hJ.val 2 (by omega) _ rfl h.2⟩)
  · refine stepJ [0] (by kernel_rfl) rfl fun m us w' hJ hmi hd => ?_
    have vv := (frame_at2 (us := us) hl (show (tabCB[10]?).join = some 0 from rfl)).trans (hJ.v0 (hd 0 (by simp)))
    have oo := (frame_old2 (us := us) (a := a0) (show (tabCB[2]?).join = none from rfl)).trans k2
    have hg := hJ.r2
    rw [hmi] at hg
    generalize frame tabCB a0 us = fr at *
    exact store_J 32 2 10 rfl (w.heap.size + 1) O oo vv _ _ hg UO.out ZO.out OO.out hJ.s2
  · refine stepJ [2] (by kernel_rfl) rfl fun m us w' hJ hmi hd => ?_
    have vv := (frame_at2 (us := us) hl (show (tabCB[12]?).join = some 2 from rfl)).trans (hJ.v2 (hd 2 (by simp)))
    have oo := (frame_old2 (us := us) (a := a0) (show (tabCB[3]?).join = none from rfl)).trans k3
    have hg := hJ.r3
    rw [hmi] at hg
    generalize frame tabCB a0 us = fr at *
    exact store_J 32 3 12 rfl (w.heap.size + 1 + 1) T oo vv _ _ hg UT.out ZT.out OT.out hJ.s3
  · intro m us w5 hmm hJ
    have r2 := hJ.r2
    have r3 := hJ.r3
    rw [hmm 3 (by decide), if_pos rfl] at r2
    rw [hmm 4 (by decide), if_pos rfl] at r3
    have HJ := Lib.hid hJ.bel
    have R2 := Lib.hid r2
    have R3 := Lib.hid r3
    clear hJ hmm r2 r3 hl k2 k3 k4 HJ0 DO
    subst ha0
    simp only [frame, tabCB]
    go_wp2_with fail
    refine bodyPost_ret (v := .tuple #[.agg O, .agg T]) (results_cell_row2 Try.results41 _ _ (w.heap.size + 1) (w.heap.size + 1 + 1) _ _ _ _ _ _ _ _ (by rfl) R2.out Try.underlying32 rfl UO.out (by rfl) R3.out Try.underlying32 rfl UT.out) rfl ⟨rfl, HJ.out⟩
def tabRB : List (Option Nat) := [none, none, none, none, none, none, none, none, none, some 0, some 1, some 2]
set_option maxRecDepth 100000 in
set_option maxHeartbeats 1000000 in
theorem rblocks_any (k : List Nat) (w : World) (hk : k.length = 16) (yk : BY k) :
    Calls Try.prog 46 #[.agg (vec k)] w (Ret w (.tuple #[.agg (vec (oneL k)), .agg (vec (twoL k))])) := by
  obtain ⟨X, hX⟩ : ∃ X, X = vec k := ⟨_, rfl⟩
  obtain ⟨Z, hZ⟩ : ∃ Z, Z = vec (zs 16) := ⟨_, rfl⟩
  obtain ⟨E, hE⟩ : ∃ E, E = vec (encL k (zs 16)) := ⟨_, rfl⟩
  obtain ⟨O, hO⟩ : ∃ O, O = vec (oneL k) := ⟨_, rfl⟩
  obtain ⟨T, hT⟩ : ∃ T, T = vec (twoL k) := ⟨_, rfl⟩
  have hzv := zero16
  rw [← hZ] at hzv
  have hzb := Lib.hid zero16_built
  rw [← hZ] at hzb
  have EN := Lib.hid (fun w => refencrypt_any k (zs 16) w hk yk (zs_len 16) (zs_by 16))
  rw [← hX, ← hZ, ← hE] at EN
  have DE := Lib.hid (fun w => rdouble_any (encL k (zs 16)) w (encL_len _ _) (encL_by yk hk _))
  rw [show dL (encL k (zs 16)) = oneL k from rfl, ← hE, ← hO] at DE
  have DO := Lib.hid (fun w => rdouble_any (oneL k) w (oneL_len _) (oneL_by yk hk))
  rw [show dL (oneL k) = twoL k from rfl, ← hO, ← hT] at DO
  have UX := Lib.hid (show (Try.prog.info? 32).map (·.size) = some X.size by rw [hX]; exact vec_info hk)
  have UO := Lib.hid (show (Try.prog.info? 32).map (·.size) = some O.size by rw [hO]; exact vec_info (oneL_len _))
  have UT := Lib.hid (show (Try.prog.info? 32).map (·.size) = some T.size by rw [hT]; exact vec_info (twoL_len _))
  have OO := Lib.hid (show O.all (·.oneCell') = true by rw [hO]; exact vec_one _)
  have OT := Lib.hid (show T.all (·.oneCell') = true by rw [hT]; exact vec_one _)
  have ZO := Lib.hid (show Z.size = O.size by rw [hZ, hO, vec_size, vec_size, zs_len, oneL_len])
  have ZT := Lib.hid (show Z.size = T.size by rw [hZ, hT, vec_size, vec_size, zs_len, twoL_len])
  have e1 : (w.alloc (.cells X 32)).heap.size = w.heap.size + 1 := alloc_size _ _
  have e2 : ((w.alloc (.cells X 32)).alloc (.cells Z 32)).heap.size = w.heap.size + 1 + 1 := by rw [alloc_size, e1]
  obtain ⟨W, hW⟩ : ∃ W, W = ((w.alloc (.cells X 32)).alloc (.cells Z 32)).alloc (.cells Z 32) := ⟨_, rfl⟩
  have R1 := Lib.hid (show W.heap[w.heap.size]? = some (.cells X 32 (0, 0)) by
    rw [hW, Below.block (alloc_below _ _) _ (by rw [e2]; omega), Below.block (alloc_below _ _) _ (by rw [e1]; omega)]; exact heap_alloc_new w _)
  have R2 := Lib.hid (show W.heap[w.heap.size + 1]? = some (.cells Z 32 (0, 0)) by
    rw [hW, Below.block (alloc_below _ _) _ (by rw [e2]; omega), ← e1]; exact heap_alloc_new _ _)
  have R3 := Lib.hid (show W.heap[w.heap.size + 1 + 1]? = some (.cells Z 32 (0, 0)) by rw [hW, ← e2]; exact heap_alloc_new _ _)
  have BW := Lib.hid (show Below w.heap.size w W by rw [hW]; exact (((Below.refl _ _).alloc (Nat.le_refl _) _).alloc (by simp) _).alloc (by simp; omega) _)
  have EW := Lib.hid (show W.heap.size = w.heap.size + 1 + 1 + 1 by rw [hW, alloc_size, e2])
  rw [← hX, ← hO, ← hT]
  clear hX hZ hE hO hT e1 e2 hk yk
  go_enter Try.func46, Try.ntmps46
  go_upto_region 1 with fail
  rw [← hW]
  clear hW
  go_upto_region 2 with (first
    | (refine wpList_load_row rfl 32 (.tmp 1) rfl w.heap.size rfl _ _ _ _ R1.out Try.underlying32 rfl UX.out ?_)
    | (refine wpList_zero rfl 32 rfl _ hzb.out ?_)
    | (go_at_call 47; (with_reducible refine (EN.out _).mono ?_); rintro e w8 ⟨rfl, B8⟩)
    | (go_at_call 58; (with_reducible refine (DE.out _).mono ?_); rintro e w9 ⟨rfl, B9⟩)
    | (refine wpList_store_row rfl 32 (.tmp 4) (.tmp 8) rfl w9.heap.size _ rfl rfl _ _ (heap_alloc_new _ _) UO.out ZO.out OO.out ?_))
  rw [World.setRow_alloc_new]
  have BQ : Below W.heap.size W w9 := B8.trans (B9.mono B8.size)
  have J0 : JB w w9.heap.size O T Z (fun _ => false) (fun _ => undef) (w9.alloc (.cells O 32)) := by
    have hs := BQ.size
    have h1 := EW.out
    refine ⟨heap_alloc_new _ _, ?_, ?_, fun h => (by cases h), fun h => (by cases h), fun h => (by cases h), (BW.out.trans (BQ.mono (by omega))).alloc (by omega) _, by omega⟩
    · rw [Below.block (alloc_below _ _) _ (by omega), BQ.block _ (by omega)]; exact R2.out
    · rw [Below.block (alloc_below _ _) _ (by omega), BQ.block _ (by omega)]; exact R3.out
  generalize w9.alloc (.cells O 32) = w10 at *
  generalize w9.heap.size = g4 at *
  have HJ0 := Lib.hid J0
  clear J0 BQ B8 B9 EN R1 R2 R3 BW EW DE hzv
  refine with_act fun a0 ha0 => ?_
  have hl : tabRB.length = a0.tmps.size := by rw [ha0]; rfl
  have k2 : a0.tmps[2]?.getD undef = .pointer (some ⟨w.heap.size + 1, 0, none⟩) := by rw [ha0]; rfl
  have k3 : a0.tmps[3]?.getD undef = .pointer (some ⟨w.heap.size + 1 + 1, 0, none⟩) := by rw [ha0]; rfl
  have k4 : a0.tmps[4]?.getD undef = .pointer (some ⟨g4, 0, none⟩) := by rw [ha0]; rfl
  refine wp_region_J (by kernel_rfl) tabRB (by kernel_rfl) (by kernel_rfl) hl (fun i => a0.tmps[i + 9]?.getD undef) (by rw [ha0]; rfl) (JB w g4 O T Z) ?_ ⟨?_, ?_, ?_, ?_, ?_, trivial⟩ ?_
  · exact ⟨HJ0.out.r4, HJ0.out.r2, HJ0.out.r3, fun h => (by cases h), fun h => (by cases h), fun h => (by cases h), HJ0.out.bel.drew, HJ0.out.lt⟩
  · refine stepJ [] (by kernel_rfl) rfl fun m us w' hJ hmi hd => ?_
    have o4 := (frame_old2 (us := us) (a := a0) (show (tabRB[4]?).join = none from rfl)).trans k4
    have hg := hJ.r4
    generalize frame tabRB a0 us = fr at *
    exact load_J 32 4 rfl g4 o4 _ O (0, 0) _ hg Try.underlying32 rfl UO.out (hJ.val 0 (by omega) _ rfl (Below.refl _ _))
  · refine stepJ [] (by kernel_rfl) rfl fun m us w' hJ hmi hd => ?_
    have o4 := (frame_old2 (us := us) (a := a0) (show (tabRB[4]?).join = none from rfl)).trans k4
    have hg := hJ.r4
    generalize frame tabRB a0 us = fr at *
    exact load_J 32 4 rfl g4 o4 _ O (0, 0) _ hg Try.underlying32 rfl UO.out (hJ.val 1 (by omega) _ rfl (Below.refl _ _))
  · refine stepJ [1] (by kernel_rfl) rfl fun m us w' hJ hmi hd => ?_
    have v1 := (frame_at2 (us := us) hl (show (tabRB[10]?).join = some 1 from rfl)).trans (hJ.v1 (hd 1 (by simp)))
    generalize frame tabRB a0 us = fr at *
    exact call_J (f := 58) (args := #[.agg O]) (by go_simp) ((DO.out w').mono fun e w'' h => ⟨_, h.1, hJ.val 2 (by omega) _ rfl h.2⟩)
  · refine stepJ [0] (by kernel_rfl) rfl fun m us w' hJ hmi hd => ?_
    have vv := (frame_at2 (us := us) hl (show (tabRB[9]?).join = some 0 from rfl)).trans (hJ.v0 (hd 0 (by simp)))
    have oo := (frame_old2 (us := us) (a := a0) (show (tabRB[2]?).join = none from rfl)).trans k2
    have hg := hJ.r2
    rw [hmi] at hg
    generalize frame tabRB a0 us = fr at *
    exact store_J 32 2 9 rfl (w.heap.size + 1) O oo vv _ _ hg UO.out ZO.out OO.out hJ.s2
  · refine stepJ [2] (by kernel_rfl) rfl fun m us w' hJ hmi hd => ?_
    have vv := (frame_at2 (us := us) hl (show (tabRB[11]?).join = some 2 from rfl)).trans (hJ.v2 (hd 2 (by simp)))
    have oo := (frame_old2 (us := us) (a := a0) (show (tabRB[3]?).join = none from rfl)).trans k3
    have hg := hJ.r3
    rw [hmi] at hg
    generalize frame tabRB a0 us = fr at *
    exact store_J 32 3 11 rfl (w.heap.size + 1 + 1) T oo vv _ _ hg UT.out ZT.out OT.out hJ.s3
  · intro m us w5 hmm hJ
    have r2 := hJ.r2
    have r3 := hJ.r3
    rw [hmm 3 (by decide), if_pos rfl] at r2
    rw [hmm 4 (by decide), if_pos rfl] at r3
    have HJ := Lib.hid hJ.bel
    have R2 := Lib.hid r2
    have R3 := Lib.hid r3
    clear hJ hmm r2 r3 hl k2 k3 k4 HJ0 DO
    subst ha0
    simp only [frame, tabRB]
    go_wp2_with fail
    refine bodyPost_ret (v := .tuple #[.agg O, .agg T]) (results_cell_row2 Try.results46 _ _ (w.heap.size + 1) (w.heap.size + 1 + 1) _ _ _ _ _ _ _ _ (by rfl) R2.out Try.underlying32 rfl UO.out (by rfl) R3.out Try.underlying32 rfl UT.out) rfl ⟨rfl, HJ.out⟩
end Go.Proofs.Ythbgjjfhgbkbdaa.aesC
