/-
  1 texts of a proof, joined.
-/
import Derived.Test.YtbhcpbihbecphaaMg25
import Derived.Test.YtbhcpbihbecphaaMg15
import Derived.Test.YtbhcpbihbecphaaMg10
import Derived.Test.YtbhcpbihbecphaaMg12

/-
  A packet's bytes: the document's Lay.
-/
namespace Go.Proofs.Ytbhcpbihbecphaa.sxC
open Go.ChangeShapes Go.WideShapes Go.ChangeAt Go.RowKit
open Go.Proofs.Ytbhcpbihbecphaa.memC Go.Proofs.Ytbhcpbihbecphaa.genC Go.Proofs.Ytbhcpbihbecphaa.butC Go.Proofs.Ytbhcpbihbecphaa.freeC Go.Proofs.Ytbhcpbihbecphaa.adC Go.Proofs.Ytbhcpbihbecphaa.pkC
set_option linter.unusedVariables false
theorem rput_key {A : Option Addr} {n c : Nat} {P : Option Addr} {m c2 : Nat} {bs ns : List Int} {w : World} (s : Nat) (z : Int) (N : Nat) (T : List Int) (hz : (s : Int) = z) (hs : s ≤ 8) (hb : kdC.Key w A n c bs) (hns : Nums .u64 w w.heap.size P m ns) (hn : n ≤ 3000) (hm : m ≤ 300)
    (hT : octC.putL bs s ns = T) (hN : T.length = N) : Calls Try.prog 26 #[.slice A n c, .int .i64 z, .slice P m c2] w (kdC.BytesRet w N T) := by
  subst hz
  have e : octC.fitN (s : Int) = s := by unfold octC.fitN; omega
  refine (octC.putref_any A n c s P m c2 bs ns w (by omega) (by omega) hb.nums hns hn hm).mono fun e' w' ⟨v, h1, h2, h3⟩ => ?_
  rw [e, hT] at h2
  exact kdC.bytes_ret h1 h2 h3 hN (by rw [← hT]; exact kdC.putL_byte hb.byte _ _)
theorem sixteen {w : World} {g q : Nat} {C : Array Value} {T : TypeId} {s : Bool} {b : List Int} (hb : b.length = 16) (R : w.heap[g]? = some (.cells C T (0, 0))) (h : ∀ j v, (adrC s b)[j]? = some v → C[q + j]? = some v) :
    Nums .u8 w w.heap.size (some ⟨g, q + 1, none⟩) 16 b :=
  ⟨hb, fun _ => ⟨g, q + 1, rfl, lt_of_row R, fun i hi => by
    rw [cell_of_row w g (q + 1 + i) _ _ (0, 0) R, show q + 1 + i = q + (1 + i) by omega, h (1 + i) (.int .u8 (b.getD i 0)) ?_]
    unfold adrC
    rw [Nat.add_comm, List.getElem?_cons_succ, List.getElem?_map, List.getElem?_eq_getElem (by omega)]
    simp [List.getD_eq_getElem?_getD, List.getElem?_eq_getElem (show i < b.length by omega)]⟩⟩
theorem belowB {B : Nat} {w w' : World} (h : Below B w w') : Below B w w' ∧ Below 0 w w' := ⟨h, h.mono (Nat.zero_le _)⟩
def reR (B : Nat) (vv : Value) (nx ho : Int) (X0 X1 X2 X3 : List Int) : Nat → (Nat → Value) → World → Prop
  | 0, us, w => us 14 = vv ∧ B ≤ w.heap.size ∧ Own .u8 5 w B vv X0
  | 1, us, w => us 14 = vv ∧ B ≤ w.heap.size ∧ Own .u8 5 w B vv X0 ∧ ∃ q, us 4 = .slice (some ⟨q, 0, none⟩) 2 2 ∧ w.heap[q]? = some (.cells #[.int .u8 nx, .int .u8 ho] 5 (0, 0))
  | 2, us, w => B ≤ w.heap.size ∧ Own .u8 5 w B (us 5) X1
  | 3, us, w => B ≤ w.heap.size ∧ Own .u8 5 w B (us 9) X2
  | 4, us, w => B ≤ w.heap.size ∧ Own .u8 5 w B (us 13) X3
  | 5, us, w => B ≤ w.heap.size ∧ Own .u8 5 w B (us 14) X3
  | _, _, _ => True
theorem reR.keep (B : Nat) (vv : Value) (nx ho : Int) (X0 X1 X2 X3 : List Int) (k : Nat) (us us' : Nat → Value) (w w' : World) (h : ∀ x ∈ [4, 5, 9, 13, 14], us' x = us x) (hb : Below w.heap.size w w') (hR : reR B vv nx ho X0 X1 X2 X3 k us w) : reR B vv nx ho X0 X1 X2 X3 k us' w' := by
  have h4 := h 4 (by simp); have h5 := h 5 (by simp); have h9 := h 9 (by simp); have h13 := h 13 (by simp); have h14 := h 14 (by simp)
  have hz := hb.size
  unfold reR at hR ⊢
  split at hR
  · exact ⟨h14.trans hR.1, Nat.le_trans hR.2.1 hz, hR.2.2.below hb⟩
  · obtain ⟨h0, h1, h2, q, h3, h6⟩ := hR
    exact ⟨h14.trans h0, Nat.le_trans h1 hz, h2.below hb, q, h4.trans h3, by rw [hb.block _ (lt_of_row h6)]; exact h6⟩
  · rw [h5]; exact ⟨Nat.le_trans hR.1 hz, hR.2.below hb⟩
  · rw [h9]; exact ⟨Nat.le_trans hR.1 hz, hR.2.below hb⟩
  · rw [h13]; exact ⟨Nat.le_trans hR.1 hz, hR.2.below hb⟩
  · rw [h14]; exact ⟨Nat.le_trans hR.1 hz, hR.2.below hb⟩
  · trivial
def rfR (B : Nat) (vv : Value) (X0 X1 X2 : List Int) (N : Nat) : Nat → (Nat → Value) → World → Prop
  | 0, _, w => B ≤ w.heap.size ∧ Own .u8 5 w B vv X0
  | 1, us, w => B ≤ w.heap.size ∧ Own .u8 5 w B (us 2) X1
  | 2, us, w => B ≤ w.heap.size ∧ Own .u8 5 w B (us 5) X2 ∧ ∃ A c, us 5 = .slice A N c
  | 3, us, w => B ≤ w.heap.size ∧ Own .u8 5 w B (us 6) X2 ∧ ∃ A c, us 6 = .slice A N c
  | _, _, _ => True
theorem rfR.keep (B : Nat) (vv : Value) (X0 X1 X2 : List Int) (N k : Nat) (us us' : Nat → Value) (w w' : World) (h : ∀ x ∈ [2, 5, 6], us' x = us x) (hb : Below w.heap.size w w') (hR : rfR B vv X0 X1 X2 N k us w) : rfR B vv X0 X1 X2 N k us' w' := by
  have h2 := h 2 (by simp); have h5 := h 5 (by simp); have h6 := h 6 (by simp)
  have hz := hb.size
  unfold rfR at hR ⊢
  split at hR
  · exact ⟨Nat.le_trans hR.1 hz, hR.2.below hb⟩
  · rw [h2]; exact ⟨Nat.le_trans hR.1 hz, hR.2.below hb⟩
  · rw [h5]; exact ⟨Nat.le_trans hR.1 hz, hR.2.1.below hb, hR.2.2⟩
  · rw [h6]; exact ⟨Nat.le_trans hR.1 hz, hR.2.1.below hb, hR.2.2⟩
  · trivial
def rhV (g0 Bh : Nat) (pr F id : Int) (U1 K : List Int) : Nat → Value → World → Prop
  | 0, v, _ => v = .pointer (some ⟨g0, 34, none⟩)
  | 1, v, _ => v = .int .u8 pr
  | 2, v, w => ∃ q, v = .slice (some ⟨q, 0, none⟩) 2 2 ∧ w.heap[q]? = some (.cells #[.int .u8 pr, .int .u8 0] 5 (0, 0))
  | 3, v, _ => v = .int .u64 F
  | 4, v, w => ∃ q, v = .slice (some ⟨q, 0, none⟩) 1 1 ∧ w.heap[q]? = some (.cells #[.int .u64 F] 50 (0, 0))
  | 5, v, w => ∃ A' c', v = .slice A' 4 c' ∧ Own .u8 5 w Bh (.slice A' 4 c') U1
  | 6, v, _ => v = .pointer (some ⟨g0, 36, none⟩)
  | 7, v, _ => v = .int .u32 id
  | 8, v, _ => v = .int .u64 id
  | 9, v, w => ∃ q, v = .slice (some ⟨q, 0, none⟩) 1 1 ∧ w.heap[q]? = some (.cells #[.int .u64 id] 50 (0, 0))
  | 10, v, w => ∃ A' c', v = .slice A' 8 c' ∧ Own .u8 5 w Bh (.slice A' 8 c') K
  | 11, v, w => ∃ A' c', v = .slice A' 8 c' ∧ Own .u8 5 w Bh (.slice A' 8 c') K
  | _, _, _ => True
theorem rhV.keep (g0 Bh : Nat) (pr F id : Int) (U1 K : List Int) (i : Nat) (v : Value) (w w' : World) (hb : Below w.heap.size w w') (h : rhV g0 Bh pr F id U1 K i v w) : rhV g0 Bh pr F id U1 K i v w' := by
  by_cases e2 : i = 2
  · subst e2
    obtain ⟨q, h1, h2⟩ := h
    exact ⟨q, h1, by rw [hb.block _ (lt_of_row h2)]; exact h2⟩
  by_cases e4 : i = 4
  · subst e4
    obtain ⟨q, h1, h2⟩ := h
    exact ⟨q, h1, by rw [hb.block _ (lt_of_row h2)]; exact h2⟩
  by_cases e5 : i = 5
  · subst e5
    obtain ⟨A', c', h1, h2⟩ := h
    exact ⟨A', c', h1, h2.below hb⟩
  by_cases e9 : i = 9
  · subst e9
    obtain ⟨q, h1, h2⟩ := h
    exact ⟨q, h1, by rw [hb.block _ (lt_of_row h2)]; exact h2⟩
  by_cases e10 : i = 10
  · subst e10
    obtain ⟨A', c', h1, h2⟩ := h
    exact ⟨A', c', h1, h2.below hb⟩
  by_cases e11 : i = 11
  · subst e11
    obtain ⟨A', c', h1, h2⟩ := h
    exact ⟨A', c', h1, h2.below hb⟩
  unfold rhV at h ⊢
  split at h <;> first | exact h | exact absurd rfl (by assumption)
def rhT : List (Option Nat) := [none, none, none, none, some 11, none, none, none, none, none, none, none, none, none, none, none, none, none, none, none, none, none, none, some 0, some 1, some 2, some 3, some 4, some 5, some 6, some 7, some 8, some 9, some 10, none, none, none, none, none, none, none, none, none, none, none, none, none, none, none, none, none, none, none, none, none, none, none, none, none, none, none, none, none, none]
def reV (g0 B : Nat) (A5 : Option Addr) (c5 : Nat) (nx ho : Int) : Nat → Value → World → Prop
  | 0, v, _ => v = .slice A5 6 c5
  | 1, v, _ => v = .int .u8 nx
  | 2, v, _ => v = .pointer (some ⟨g0, 35, none⟩)
  | 3, v, _ => v = .int .u8 ho
  | 6, v, _ => v = .pointer (some ⟨g0, 0, none⟩)
  | 7, v, _ => v = .pointer (some ⟨g0, 1, none⟩)
  | 8, v, _ => v = .slice (some ⟨g0, 1, none⟩) 16 16
  | 10, v, _ => v = .pointer (some ⟨g0, 17, none⟩)
  | 11, v, _ => v = .pointer (some ⟨g0, 18, none⟩)
  | 12, v, _ => v = .slice (some ⟨g0, 18, none⟩) 16 16
  | _, _, _ => True
theorem reV.keep (g0 B : Nat) (A5 : Option Addr) (c5 : Nat) (nx ho : Int) (i : Nat) (v : Value) (w w' : World) (hd : Below w.heap.size w w' ∨ Below B w w') (h : reV g0 B A5 c5 nx ho i v w) : reV g0 B A5 c5 nx ho i v w' := by
  unfold reV at h ⊢
  split at h <;> exact h
def reT : List (Option Nat) := [none, none, none, none, none, none, none, some 14, none, none, none, none, none, none, none, none, none, none, none, none, none, none, none, none, none, none, none, none, none, none, none, none, none, none, none, none, none, none, none, none, none, none, none, none, some 0, some 1, some 2, some 3, some 4, some 5, some 6, some 7, some 8, some 9, some 10, some 11, some 12, some 13, none, none, none, none, none, none]
def rfV (g0 B : Nat) (vv : Value) (AK : Option Addr) (kn cK : Nat) (A : Option Addr) (n c : Nat) : Nat → Value → World → Prop
  | 0, v, _ => v = vv
  | 1, v, _ => v = .slice AK kn cK
  | 3, v, _ => v = .pointer (some ⟨g0, 40, none⟩)
  | 4, v, _ => v = .slice A n c
  | 7, v, _ => v = .int .i64 0
  | _, _, _ => True
theorem rfV.keep (g0 B : Nat) (vv : Value) (AK : Option Addr) (kn cK : Nat) (A : Option Addr) (n c : Nat) (i : Nat) (v : Value) (w w' : World) (hd : Below w.heap.size w w' ∨ Below B w w') (h : rfV g0 B vv AK kn cK A n c i v w) : rfV g0 B vv AK kn cK A n c i v w' := by
  unfold rfV at h ⊢
  split at h <;> exact h
def rfT : List (Option Nat) := [none, none, some 6, some 7, none, none, none, none, none, none, none, none, none, none, none, none, none, none, none, none, none, none, none, none, none, none, none, none, none, none, none, none, none, none, none, none, none, none, none, none, none, none, none, none, none, none, none, none, none, none, none, none, none, none, none, none, none, none, some 0, some 1, some 2, some 3, some 4, some 5]
set_option maxRecDepth 100000 in
set_option maxHeartbeats 4000000 in
theorem rlay_any (p : Pkt) (A : Option Addr) (n c : Nat) (xs : List Int) (w : World) (hp : p.Ok) (hx : Nums .u8 w w.heap.size A n xs) (hy : ∀ x ∈ xs, Byte x) (hn : n ≤ 9223372036854775807) (hf : mayS p n = true → n ≤ 9000) :
    Calls Try.prog 12 #[.agg (pktV p A n c)] w (OwnE w (layL p n xs) (layE p n)) := by
  obtain ⟨W, hW⟩ : ∃ W, W = w.alloc (.cells (pktV p A n c) 28) := ⟨_, rfl⟩
  have R0 := Lib.hid (show W.heap[w.heap.size]? = some (.cells (pktV p A n c) 28 (0, 0)) by rw [hW]; exact heap_alloc_new w _)
  have HB := Lib.hid (show Below w.heap.size w W by rw [hW]; exact alloc_below _ _)
  have c0 := pkC hp A n c
  have UI := Lib.hid c0.info
  have KR := Lib.hid (fun (w' : World) (h : Below W.heap.size W w') => (show w'.heap[w.heap.size]? = some (.cells (pktV p A n c) 28 (0, 0)) by rw [h.block _ (lt_of_row R0.out)]; exact R0.out))
  have MC := Lib.hid (fun w' => rmay_any p A n c w' hp hn)
  have HWW := Lib.hid (Below.refl W.heap.size W)
  by_cases hm : mayS p n = true
  rotate_left
  · have hm' : mayS p n = false := by cases h : mayS p n <;> simp_all
    have ev : layL p n xs = [] := by unfold layL; rw [hm']; rfl
    have ee : layE p n = 1 := by unfold layE; rw [hm']; rfl
    rw [ev, ee]
    rw [hm'] at MC
    generalize pktV p A n c = CP at *
    clear hm hm' ev ee c0 hx hp hf
    go_enter Try.func12, Try.ntmps12
    go_upto_region 1 with fail
    rw [← hW]
    clear hW
    go_wp2_with (first
      | (refine wpList_load_row rfl 28 (.tmp 1) rfl w.heap.size rfl _ _ _ _ (KR.out _ HWW.out) Try.underlying28 rfl UI.out ?_)
      | (go_at_call 14; (refine (MC.out _).mono ?_); rintro e w2 ⟨rfl, BB⟩
         have HW2 := Lib.hid BB
         clear BB))
    go_ret2
    exact ⟨none, 0, 0, rfl, Own.nil _ _, HB.out.trans (HW2.out.mono HB.out.size)⟩
  obtain ⟨i0, hi0, hz0, hz1, hz2⟩ := info_parts byte_inf
  have T1' := Lib.hid hi0; have T2 := Lib.hid hz0; have T3 := Lib.hid hz1; have T4 := Lib.hid hz2
  have hn9 := Lib.hid (hf hm)
  obtain ⟨m1, m2, m3, m4, m5, m6, m7⟩ := mayS_parts hm
  have K40 := Lib.hid (fun w' (h : Below W.heap.size W w') => PkC.cell (KR.out w' h) c0.load)
  have K35 := Lib.hid (fun w' (h : Below W.heap.size W w') => PkC.cell (KR.out w' h) c0.hops)
  have K34 := Lib.hid (fun w' (h : Below W.heap.size W w') => PkC.cell (KR.out w' h) c0.proto)
  have K37 := Lib.hid (fun w' (h : Below W.heap.size W w') => PkC.cell (KR.out w' h) c0.whole)
  have SA0 := Lib.hid (fun w' h => sixteen hp.la (KR.out w' h) c0.src)
  have SB0 := Lib.hid (fun w' h => sixteen hp.lb (KR.out w' h) c0.dst)
  have K36 := Lib.hid (fun w' (h : Below W.heap.size W w') => PkC.cell (KR.out w' h) c0.id)
  have K38 := Lib.hid (fun w' (h : Below W.heap.size W w') => PkC.cell (KR.out w' h) c0.more)
  have K39 := Lib.hid (fun w' (h : Below W.heap.size W w') => PkC.cell (KR.out w' h) c0.off)
  have hid := hp.id
  have hpr := hp.proto
  have BBz := bits_bd hm
  have LSA := Lib.hid hp.la
  have LSB := Lib.hid hp.lb
  have hcut : p.whole = false → cutL p = [p.proto, 0] ++ nb2 (bitsZ p) ++ nb4 p.id := fun h => by unfold cutL; rw [if_neg (by rw [h]; decide), List.append_assoc]
  have HX0 := Lib.hid (fun w' (h : Below W.heap.size W w') => (show Nums .u8 w' w'.heap.size A n xs from (hx.below (HB.out.trans (h.mono HB.out.size))).more (Nat.le_trans HB.out.size h.size)))
  have ev : layL p n xs = hedL p n ++ (p.a ++ (p.b ++ (cutL p ++ xs))) := by unfold layL; rw [if_pos hm]
  have ee : layE p n = 0 := by unfold layE; rw [if_pos hm]
  rw [hm] at MC
  rw [ev, ee]
  have YK := Lib.hid (cutL_byte hp hm)
  have YH := Lib.hid (hedL_byte hp hm)
  have LK := Lib.hid (cutL_len p)
  have NK := Lib.hid (cutN_bd p)
  obtain ⟨X, hX⟩ : ∃ X, X = hedL p n ++ (p.a ++ (p.b ++ (cutL p ++ xs))) := ⟨_, rfl⟩
  have EXX := Lib.hid hX.symm
  rw [← hX]
  obtain ⟨kn, hkn⟩ : ∃ k, k = cutN p := ⟨_, rfl⟩
  rw [← hkn] at LK NK
  obtain ⟨NN, hNN⟩ : ∃ k, k = 40 + kn + n := ⟨_, rfl⟩
  have NP := Lib.hid (show 0 < NN ∧ NN ≤ 10000 by have := hn9.out; have := NK.out; omega)
  have ENN := Lib.hid hNN
  obtain ⟨S, hS⟩ : ∃ S : Int, S = (kn : Int) + (n : Int) := ⟨_, rfl⟩
  have lS : 0 ≤ S ∧ S ≤ 65535 := by have := hn9.out; have := NK.out; omega
  have WS := Lib.hid (show IntKind.i64.wrap ((kn : Int) + (n : Int)) = S by rw [← hS]; exact IntWalk.i64_in _ (by omega))
  have VS := Lib.hid (show IntKind.u64.wrap S = S from IntWalk.u64_in _ (by omega))
  have ES := Lib.hid hS.symm
  obtain ⟨T1, hT1⟩ : ∃ T, T = [96, 0, 0, 0] ++ nb2 S := ⟨_, rfl⟩
  have ET1 := Lib.hid (show octC.putL [96, 0, 0, 0] 2 [S] = T1 by rw [hT1]; exact put2 lS.1 lS.2)
  have LT1 := Lib.hid (show T1.length = 6 by rw [hT1]; rfl)
  have YT1 := Lib.hid (show ∀ x ∈ T1, Byte x from fun x hx => YH.out x (by unfold hedL; rw [← hkn, ← hS, ← hT1]; exact List.mem_append_left _ hx))
  obtain ⟨nx, hnx⟩ : ∃ z, z = nxtZ p := ⟨_, rfl⟩
  obtain ⟨ho, hho⟩ : ∃ z, z = p.hops := ⟨_, rfl⟩
  obtain ⟨H, hH⟩ : ∃ H, H = T1 ++ [nx, ho] := ⟨_, rfl⟩
  have eH : hedL p n = H := by unfold hedL; rw [← hkn, ← hS, ← hT1, ← hnx, ← hho, hH]
  rw [eH] at YH EXX
  have EH := Lib.hid hH.symm
  have L8 := Lib.hid (show H.length = 8 by rw [hH, List.length_append, LT1.out]; rfl)
  have enx : nx = if p.whole then p.proto else 44 := by rw [hnx]; rfl
  have ek : (p.whole = true → cutL p = []) ∧ kn = (if p.whole then 0 else 8) := ⟨fun h => by unfold cutL; rw [if_pos h], by rw [hkn]; rfl⟩
  rw [← hho] at K35
  obtain ⟨K, hK⟩ : ∃ K, K = cutL p := ⟨_, rfl⟩
  rw [← hK] at ek YK LK EXX hcut
  have HY := Lib.hid hy
  obtain ⟨wl, hwl⟩ : ∃ b, b = p.whole := ⟨_, rfl⟩
  rw [← hwl] at K37 enx ek hcut
  generalize p.proto = pr at *
  have hF : bitsZ p = if p.more then p.off + 1 else p.off := rfl
  obtain ⟨F, hFF⟩ : ∃ F, F = bitsZ p := ⟨_, rfl⟩
  rw [← hFF] at hF hcut BBz
  generalize p.id = id at *
  generalize p.off = of at *
  generalize p.more = mo at *
  generalize p.a = sa at *
  generalize p.b = sb at *
  generalize hCP : pktV p A n c = CP at *
  have LX40 := Lib.hid (show (H ++ (sa ++ sb)).length = 40 by rw [List.length_append, List.length_append, L8.out, LSA.out, LSB.out])
  clear hCP hFF hwl hK hho hnx hH eH hT1 hS lS hNN hkn hX ev ee hm hx hp hf hy m1 m2 m3 m4 m7 hi0 hz0 hz1 hz2 c0
  have L24 := Lib.hid (show (H ++ sa).length = 24 by rw [List.length_append, L8.out, LSA.out])
  obtain ⟨X40, hX40⟩ : ∃ X, X = H ++ sa ++ sb := ⟨_, rfl⟩
  have EX40 := Lib.hid hX40.symm
  rw [← List.append_assoc, ← hX40] at LX40
  have EXX := Lib.hid (show X40 ++ K ++ xs = X by rw [← EXX.out, hX40]; simp)
  have LX48 := Lib.hid (show (X40 ++ K).length = 40 + kn by rw [List.length_append, LX40.out, LK.out])
  have K35W := K35
  have K40W := K40
  clear hX40 K35 K40
  cases wl
  · obtain rfl : nx = 44 := by simpa using enx
    obtain rfl : kn = 8 := by simpa using ek.2
    have LKK := Lib.hid (show K.length = 8 from LK.out)
    clear enx ek
    have hcut := hcut rfl
    obtain ⟨U1, hU1⟩ : ∃ T, T = [pr, 0] ++ nb2 F := ⟨_, rfl⟩
    have EU1 := Lib.hid (show octC.putL [pr, 0] 2 [F] = U1 by rw [hU1]; exact put2 BBz.1 BBz.2.1)
    have EU2 := Lib.hid (show octC.putL U1 4 [id] = K by rw [hcut, hU1]; exact put4 hid.1 hid.2)
    have LU1 := Lib.hid (show U1.length = 4 by rw [hU1]; rfl)
    have Y2 := Lib.hid (show ∀ x ∈ [pr, 0], Byte x by
      intro x hx
      simp only [List.mem_cons, List.not_mem_nil, or_false] at hx
      rcases hx with rfl | rfl
      · exact hpr
      · unfold Byte; decide)
    have YU1 := Lib.hid (show ∀ x ∈ U1, Byte x by
      intro x hx
      rw [hU1] at hx
      rcases List.mem_append.1 hx with h | h
      · exact Y2.out x h
      · exact nb2_byte BBz.1 BBz.2.1 x h)
    have VI := Lib.hid (show IntKind.u64.wrap id = id from IntWalk.u64_in _ (by omega))
    have vo := IntWalk.u64_in of (by omega)
    clear hcut hU1 hid hpr
    cases mo
    · obtain rfl : F = of := by simpa using hF
      clear hF
      go_enter Try.func12, Try.ntmps12
      go_upto_region 1 with fail
      rw [← hW]
      clear hW
      go_upto_region 9 with (first
        | (refine wpList_load_row rfl 28 (.tmp 1) rfl w.heap.size rfl _ _ _ _ (KR.out _ HWW.out) Try.underlying28 rfl UI.out ?_)
        | (go_at_call 14; (refine (MC.out _).mono ?_); rintro e w2 ⟨rfl, BB⟩
           have HW2 := Lib.hid BB
           have k34 := K34.out w2 BB
           have k37 := K37.out w2 BB
           have k38 := K38.out w2 BB
           have k39 := K39.out w2 BB
           clear BB))
      have BWr := Lib.hid HW2.out
      clear k34 k37 k38 k39 vo
      obtain ⟨Bh, hBh⟩ : ∃ B, B = w2.heap.size := ⟨_, rfl⟩
      have LB := Lib.hid (Nat.le_of_eq hBh)
      have LBh := Lib.hid (Nat.le_of_eq hBh.symm)
      clear hBh
      have K34 := Lib.hid (fun w' (h : Gr w2 w') => K34.out w' (BWr.out.trans (Below.mono h BWr.out.size)))
      have K36 := Lib.hid (fun w' (h : Gr w2 w') => K36.out w' (BWr.out.trans (Below.mono h BWr.out.size)))
      refine with_act fun a0 ha0 => ?_
      have hl : rhT.length = a0.tmps.size := by rw [ha0]; rfl
      have k1 : a0.tmps[1]?.getD undef = .pointer (some ⟨w.heap.size, 0, none⟩) := by rw [ha0]; rfl
      have k6 : a0.tmps[6]?.getD undef = .int .u64 F := by rw [ha0]; rfl
      refine wp_region_vals (by kernel_rfl) rhT (by kernel_rfl) (by kernel_rfl) hl (fun i => if i = 11 then a0.tmps[4]?.getD undef else undef) (by rw [ha0]; rfl) (Gr w2) (rhV w.heap.size Bh pr F id U1 K) (gr_drew _) (rhV.keep _ _ _ _ _ _ _) ⟨?_, ?_, ?_, ?_, ?_, ?_, ?_, ?_, ?_, ?_, ?_, ?_, trivial⟩ ?_
      · refine step_plain [] (by kernel_rfl) rfl fun us w' hG hV => ?_
        have o1 := (frame_old2 (us := us) (a := a0) (show (rhT[1]?).join = none from rfl)).trans k1
        generalize frame rhT a0 us = fr at *
        exact val_ok (v := .pointer (some ⟨w.heap.size, 34, none⟩)) (w' := w') (by go_simp) hG (Below.refl _ _) rfl
      · refine step_plain [0] (by kernel_rfl) rfl fun us w' hG hV => ?_
        have e0 : us 0 = .pointer (some ⟨w.heap.size, 34, none⟩) := hV 0 (by simp)
        have v0 := (frame_at2 (us := us) hl (show (rhT[23]?).join = some 0 from rfl)).trans e0
        have hc := K34.out w' hG
        generalize frame rhT a0 us = fr at *
        exact val_ok (v := .int .u8 pr) (w' := w') (by go_simp) hG (Below.refl _ _) rfl
      · refine step_plain [1] (by kernel_rfl) rfl fun us w' hG hV => ?_
        have e1 : us 1 = .int .u8 pr := hV 1 (by simp)
        have v1 := (frame_at2 (us := us) hl (show (rhT[24]?).join = some 1 from rfl)).trans e1
        generalize frame rhT a0 us = fr at *
        exact val_ok (v := .slice (some ⟨w'.heap.size, 0, none⟩) 2 2) (w' := w'.alloc (.cells #[.int .u8 pr, .int .u8 0] 5)) (by go_simp) (hG.below (alloc_below _ _)) (alloc_below _ _) ⟨_, rfl, heap_alloc_new _ _⟩
      · refine step_plain [] (by kernel_rfl) rfl fun us w' hG hV => ?_
        have o6 := (frame_old2 (us := us) (a := a0) (show (rhT[6]?).join = none from rfl)).trans k6
        generalize frame rhT a0 us = fr at *
        exact val_ok (v := .int .u64 F) (w' := w') (by go_simp) hG (Below.refl _ _) rfl
      · refine step_plain [3] (by kernel_rfl) rfl fun us w' hG hV => ?_
        have e3 : us 3 = .int .u64 F := hV 3 (by simp)
        have v3 := (frame_at2 (us := us) hl (show (rhT[26]?).join = some 3 from rfl)).trans e3
        generalize frame rhT a0 us = fr at *
        exact val_ok (v := .slice (some ⟨w'.heap.size, 0, none⟩) 1 1) (w' := w'.alloc (.cells #[.int .u64 F] 50)) (by go_simp) (hG.below (alloc_below _ _)) (alloc_below _ _) ⟨_, rfl, heap_alloc_new _ _⟩
      · refine step_plain [2, 4] (by kernel_rfl) rfl fun us w' hG hV => ?_
        obtain ⟨q2, e2, r2⟩ := (show ∃ q, us 2 = .slice (some ⟨q, 0, none⟩) 2 2 ∧ w'.heap[q]? = some (.cells #[.int .u8 pr, .int .u8 0] 5 (0, 0)) from hV 2 (by simp))
        have v2 := (frame_at2 (us := us) hl (show (rhT[25]?).join = some 2 from rfl)).trans e2
        obtain ⟨q4, e4, r4⟩ := (show ∃ q, us 4 = .slice (some ⟨q, 0, none⟩) 1 1 ∧ w'.heap[q]? = some (.cells #[.int .u64 F] 50 (0, 0)) from hV 4 (by simp))
        have v4 := (frame_at2 (us := us) hl (show (rhT[27]?).join = some 4 from rfl)).trans e4
        generalize frame rhT a0 us = fr at *
        exact call_ok (f := 26) (args := #[.slice (some ⟨q2, 0, none⟩) 2 2, .int .i64 2, .slice (some ⟨q4, 0, none⟩) 1 1]) (by go_simp) ((rput_key (bs := [pr, 0]) (ns := [F]) 2 2 4 U1 rfl (by decide) ⟨row_nums .u8 r2 rfl 2 rfl, Y2.out, (by decide), (by decide)⟩ (row_nums .u64 r4 rfl 1 rfl) (by decide) (by decide) EU1.out LU1.out).mono fun e w'' ⟨A', c', h1, h2, h3, h4⟩ => ⟨_, h1, hG.below h4, h4, A', c', rfl, h2.less (Nat.le_trans LB.out (Below.size hG))⟩)
      · refine step_plain [] (by kernel_rfl) rfl fun us w' hG hV => ?_
        have o1 := (frame_old2 (us := us) (a := a0) (show (rhT[1]?).join = none from rfl)).trans k1
        generalize frame rhT a0 us = fr at *
        exact val_ok (v := .pointer (some ⟨w.heap.size, 36, none⟩)) (w' := w') (by go_simp) hG (Below.refl _ _) rfl
      · refine step_plain [6] (by kernel_rfl) rfl fun us w' hG hV => ?_
        have e6 : us 6 = .pointer (some ⟨w.heap.size, 36, none⟩) := hV 6 (by simp)
        have v6 := (frame_at2 (us := us) hl (show (rhT[29]?).join = some 6 from rfl)).trans e6
        have hc := K36.out w' hG
        generalize frame rhT a0 us = fr at *
        exact val_ok (v := .int .u32 id) (w' := w') (by go_simp) hG (Below.refl _ _) rfl
      · refine step_plain [7] (by kernel_rfl) rfl fun us w' hG hV => ?_
        have e7 : us 7 = .int .u32 id := hV 7 (by simp)
        have v7 := (frame_at2 (us := us) hl (show (rhT[30]?).join = some 7 from rfl)).trans e7
        have hw := VI.out
        generalize frame rhT a0 us = fr at *
        exact val_ok (v := .int .u64 id) (w' := w') (by go_simp) hG (Below.refl _ _) rfl
      · refine step_plain [8] (by kernel_rfl) rfl fun us w' hG hV => ?_
        have e8 : us 8 = .int .u64 id := hV 8 (by simp)
        have v8 := (frame_at2 (us := us) hl (show (rhT[31]?).join = some 8 from rfl)).trans e8
        generalize frame rhT a0 us = fr at *
        exact val_ok (v := .slice (some ⟨w'.heap.size, 0, none⟩) 1 1) (w' := w'.alloc (.cells #[.int .u64 id] 50)) (by go_simp) (hG.below (alloc_below _ _)) (alloc_below _ _) ⟨_, rfl, heap_alloc_new _ _⟩
      · refine step_plain [5, 9] (by kernel_rfl) rfl fun us w' hG hV => ?_
        obtain ⟨A5, c5, e5, P5⟩ := (show ∃ A' c', us 5 = .slice A' 4 c' ∧ Own .u8 5 w' Bh (.slice A' 4 c') U1 from hV 5 (by simp))
        have v5 := (frame_at2 (us := us) hl (show (rhT[28]?).join = some 5 from rfl)).trans e5
        obtain ⟨q9, e9, r9⟩ := (show ∃ q, us 9 = .slice (some ⟨q, 0, none⟩) 1 1 ∧ w'.heap[q]? = some (.cells #[.int .u64 id] 50 (0, 0)) from hV 9 (by simp))
        have v9 := (frame_at2 (us := us) hl (show (rhT[32]?).join = some 9 from rfl)).trans e9
        generalize frame rhT a0 us = fr at *
        exact call_ok (f := 26) (args := #[.slice A5 4 c5, .int .i64 4, .slice (some ⟨q9, 0, none⟩) 1 1]) (by go_simp) ((rput_key (bs := U1) (ns := [id]) 4 4 8 K rfl (by decide) ⟨P5.nums, YU1.out, (own_cap P5).1, (own_cap P5).2⟩ (row_nums .u64 r9 rfl 1 rfl) (by decide) (by decide) EU2.out LKK.out).mono fun e w'' ⟨A', c', h1, h2, h3, h4⟩ => ⟨_, h1, hG.below h4, h4, A', c', rfl, h2.less (Nat.le_trans LB.out (Below.size hG))⟩)
      · refine step_plain [10] (by kernel_rfl) rfl fun us w' hG hV => ?_
        obtain ⟨A10, c10, e10, P10⟩ := (show ∃ A' c', us 10 = .slice A' 8 c' ∧ Own .u8 5 w' Bh (.slice A' 8 c') K from hV 10 (by simp))
        have v10 := (frame_at2 (us := us) hl (show (rhT[33]?).join = some 10 from rfl)).trans e10
        generalize frame rhT a0 us = fr at *
        exact val_ok (v := .slice A10 8 c10) (w' := w') (by go_simp) hG (Below.refl _ _) ⟨A10, c10, rfl, P10⟩
      · intro us w3 hG hV
        obtain ⟨AK, cK, e11, OK⟩ := (show ∃ A' c', us 11 = .slice A' 8 c' ∧ Own .u8 5 w3 Bh (.slice A' 8 c') K from hV 11 (by decide))
        subst ha0
        simp only [frame, rhT, fill]
        rw [e11]
        have NK3 := Lib.hid OK.nums
        have BWW := Lib.hid (BWr.out.trans (Below.mono hG BWr.out.size))
        have BW3 := Lib.hid (HB.out.trans (BWW.out.mono HB.out.size))
        clear hV hl hG OK k1 k6 e11
        generalize us 0 = y0 at *
        generalize us 1 = y1 at *
        generalize us 2 = y2 at *
        generalize us 3 = y3 at *
        generalize us 4 = y4 at *
        generalize us 5 = y5 at *
        generalize us 6 = y6 at *
        generalize us 7 = y7 at *
        generalize us 8 = y8 at *
        generalize us 9 = y9 at *
        generalize us 10 = y10 at *
        clear us
        clear K34 K36
        obtain ⟨Wl, hWl⟩ : ∃ W, W = w3.alloc (.cells #[.int .u8 96, .int .u8 0, .int .u8 0, .int .u8 0] 5) := ⟨_, rfl⟩
        obtain ⟨Wm, hWm⟩ : ∃ W, W = Wl.alloc (.cells #[.int .u64 S] 50) := ⟨_, rfl⟩
        have Bl : Below w3.heap.size w3 Wl := by rw [hWl]; exact alloc_below _ _
        have Bm : Below Wl.heap.size Wl Wm := by rw [hWm]; exact alloc_below _ _
        have sl : Wl.heap.size = w3.heap.size + 1 := by rw [hWl]; exact alloc_size _ _
        have sm : Wm.heap.size = Wl.heap.size + 1 := by rw [hWm]; exact alloc_size _ _
        have KWm := Lib.hid (BW3.out.trans ((Bl.trans (Bm.mono Bl.size)).mono BW3.out.size))
        have N1 : Nums .u8 Wl (w3.heap.size + 1) (some ⟨w3.heap.size, 0, none⟩) 4 [96, 0, 0, 0] := by rw [hWl]; exact lit_nums .u8 w3 [96, 0, 0, 0] 5 _ rfl 4 rfl
        have N2 : Nums .u64 Wm (Wl.heap.size + 1) (some ⟨Wl.heap.size, 0, none⟩) 1 [S] := by rw [hWm]; exact lit_nums .u64 Wl [S] 50 _ rfl 1 rfl
        have PU := Lib.hid (rput_key (w := Wm) (A := some ⟨w3.heap.size, 0, none⟩) (n := 4) (c := 4) (P := some ⟨Wl.heap.size, 0, none⟩) (m := 1) (c2 := 1) (bs := [96, 0, 0, 0]) (ns := [S]) 2 2 6 T1 rfl (by decide) ⟨(N1.below (Bm.mono (by omega))).more (by omega), (by unfold Byte; simp), (by decide), (by decide)⟩ (N2.more (by omega)) (by decide) (by decide) ET1.out LT1.out)
        rw [sl] at PU
        have ws : IntKind.i64.wrap ((8 : Int) + (n : Int)) = S := by first | exact WS.out | (have h := WS.out; rw [show ((0 : Nat) : Int) + (n : Int) = (n : Int) by omega] at h; exact h)
        have vs := VS.out
        have k40 := K40W.out Wl (BWW.out.trans (Bl.mono BWW.out.size))
        rw [hWl] at k40
        clear N1 N2
        go_upto_region 12 with (first
          | (rw [← hWl, ← hWm]; go_at_call 26; (refine PU.out.mono ?_); rintro e w5 ⟨A5, c5, rfl, O5, K5, B5⟩
             have HO := Lib.hid O5
             have BW5 := Lib.hid (KWm.out.trans (B5.mono KWm.out.size))
             have B35 := Lib.hid ((Bl.trans (Bm.mono Bl.size)).trans (B5.mono (by omega)))
             have LM := Lib.hid (show w3.heap.size ≤ Wm.heap.size by omega)
             have HB5 := Lib.hid (show Wm.heap.size ≤ w5.heap.size from B5.size)
             clear O5 K5 B5))
        clear k40 ws vs PU
        obtain ⟨B, hB⟩ : ∃ B, B = Wm.heap.size := ⟨_, rfl⟩
        have LMB := Lib.hid (show w3.heap.size ≤ B by rw [hB]; exact LM.out)
        rw [← hB] at HO HB5
        have LWB := Lib.hid (show w.heap.size ≤ B by have := LMB.out; have := BW3.out.size; omega)
        clear hB hWm hWl Bl Bm sl sm LM KWm
        have KW := Lib.hid (fun w' (h : Below B w5 w' ∧ B ≤ w'.heap.size) => (show Below W.heap.size W w' from BWW.out.trans ((B35.out.trans (h.1.mono LMB.out)).mono BWW.out.size)))
        have K35 := Lib.hid (fun w' (h : Below B w5 w' ∧ B ≤ w'.heap.size) => K35W.out w' (KW.out w' h))
        have K40 := Lib.hid (fun w' (h : Below B w5 w' ∧ B ≤ w'.heap.size) => K40W.out w' (KW.out w' h))
        have SA := Lib.hid (fun w' (h : Below B w5 w' ∧ B ≤ w'.heap.size) => SA0.out w' (KW.out w' h))
        have SB := Lib.hid (fun w' (h : Below B w5 w' ∧ B ≤ w'.heap.size) => SB0.out w' (KW.out w' h))
        have PX := Lib.hid (fun w' (h : Below B w5 w' ∧ B ≤ w'.heap.size) => HX0.out w' (KW.out w' h))
        have PK := Lib.hid (fun w' (h : Below B w5 w' ∧ B ≤ w'.heap.size) => (show Nums .u8 w' w'.heap.size AK 8 K from (NK3.out.below (B35.out.trans (h.1.mono LMB.out))).more (Nat.le_trans LMB.out h.2)))
        clear KW B35 NK3 SA0 SB0 K35W K40W BWW
        refine with_act fun a0 ha0 => ?_
        have hl : reT.length = a0.tmps.size := by rw [ha0]; rfl
        have k1 : a0.tmps[1]?.getD undef = .pointer (some ⟨w.heap.size, 0, none⟩) := by rw [ha0]; rfl
        have k5 : a0.tmps[5]?.getD undef = .int .u8 44 := by rw [ha0]; rfl
        have k7 : a0.tmps[7]?.getD undef = .slice A5 6 c5 := by rw [ha0]; rfl
        refine wp_region_che (by kernel_rfl) reT (by kernel_rfl) (by kernel_rfl) hl (fun i => if i = 14 then a0.tmps[7]?.getD undef else undef) (by rw [ha0]; rfl) (0) (Below B) [4, 5, 9, 13, 14] (by kernel_rfl) (by decide) (by decide) (fun w' => Below B w5 w' ∧ B ≤ w'.heap.size) (reV w.heap.size B A5 c5 44 ho) (reR B (.slice A5 6 c5) 44 ho T1 H (H ++ sa) (H ++ sa ++ sb)) (Nat.zero_le _) ⟨(Below.refl _ _).drew.mono HB5.out, HB5.out⟩ ⟨by rw [ha0]; rfl, HB5.out, HO.out.keep fun _ _ _ => rfl⟩ (fun w1 w2 hb hd h => by rcases hd with hd | hd; exact ⟨h.1.trans (hd.mono h.2), Nat.le_trans h.2 hd.size⟩; exact ⟨h.1.trans hd, Nat.le_trans h.2 hd.size⟩) (fun i v w w' _ hd h => reV.keep _ _ _ _ _ _ i v w w' hd h) (fun k us us' w w' h _ hb hR => reR.keep _ _ _ _ _ _ _ _ k us us' w w' h hb hR) ⟨?_, ?_, ?_, ?_, ?_, ?_, ?_, ?_, ?_, ?_, ?_, ?_, ?_, ?_, ?_, trivial⟩ ?_
        · refine stepE_early 0 1 (.inl rfl) (.inr ⟨_, _, rfl, rfl, by kernel_rfl⟩) [] (by kernel_rfl) (by decide) (by decide) rfl fun us w' k hB hG hV hk hR => ?_
          have hq : us 14 = .slice A5 6 c5 := by
            obtain ⟨h1, h2⟩ := hk
            match k, h1, h2, hR with
            | 0, _, _, hR => exact hR.1
            | 1, _, _, hR => exact hR.1
          have o7 := (frame_at2 (us := us) hl (show (reT[7]?).join = some 14 from rfl)).trans hq
          generalize frame reT a0 us = fr at *
          exact val_C (v := .slice A5 6 c5) (w' := w') (by go_simp) (Below.refl _ _) rfl
        · refine stepE_val [] (by kernel_rfl) (by decide) (by decide) rfl fun us w' hB hG hV => ?_
          have o5 := (frame_old2 (us := us) (a := a0) (show (reT[5]?).join = none from rfl)).trans k5
          generalize frame reT a0 us = fr at *
          exact val_C (v := .int .u8 44) (w' := w') (by go_simp) (Below.refl _ _) rfl
        · refine stepE_val [] (by kernel_rfl) (by decide) (by decide) rfl fun us w' hB hG hV => ?_
          have o1 := (frame_old2 (us := us) (a := a0) (show (reT[1]?).join = none from rfl)).trans k1
          generalize frame reT a0 us = fr at *
          exact val_C (v := .pointer (some ⟨w.heap.size, 35, none⟩)) (w' := w') (by go_simp) (Below.refl _ _) rfl
        · refine stepE_val [2] (by kernel_rfl) (by decide) (by decide) rfl fun us w' hB hG hV => ?_
          have e2 : us 2 = .pointer (some ⟨w.heap.size, 35, none⟩) := hV 2 (by simp)
          have v2 := (frame_at2 (us := us) hl (show (reT[46]?).join = some 2 from rfl)).trans e2
          have hc := K35.out w' hG
          generalize frame reT a0 us = fr at *
          exact val_C (v := .int .u8 ho) (w' := w') (by go_simp) (Below.refl _ _) rfl
        · refine stepE_chain 0 rfl (by decide) [1, 3] (by kernel_rfl) (by decide) rfl fun us w' hB hG hV hR => ?_
          have e1 : us 1 = .int .u8 44 := hV 1 (by simp)
          have v1 := (frame_at2 (us := us) hl (show (reT[45]?).join = some 1 from rfl)).trans e1
          have e3 : us 3 = .int .u8 ho := hV 3 (by simp)
          have v3 := (frame_at2 (us := us) hl (show (reT[47]?).join = some 3 from rfl)).trans e3
          generalize frame reT a0 us = fr at *
          obtain ⟨h14, hz, HO⟩ : us 14 = .slice A5 6 c5 ∧ B ≤ w'.heap.size ∧ Own .u8 5 w' B (.slice A5 6 c5) T1 := hR
          exact val_J (R := fun v w'' => (Below B w' w'' ∧ Below 0 w' w'') ∧ reR B (.slice A5 6 c5) 44 ho T1 H (H ++ sa) (H ++ sa ++ sb) 1 (upd us 4 v) w'') (v := .slice (some ⟨w'.heap.size, 0, none⟩) 2 2) (w' := w'.alloc (.cells #[.int .u8 44, .int .u8 ho] 5)) (by go_simp) ⟨belowB ((alloc_below w' _).mono hz), by rw [upd_other _ _ (by decide)]; exact h14, by rw [alloc_size]; omega, HO.alloc _, w'.heap.size, upd_same _ _ _, heap_alloc_new w' _⟩
        · refine stepE_chain 1 rfl (by decide) [0] (by kernel_rfl) (by decide) rfl fun us w' hB hG hV hR => ?_
          have e0 : us 0 = .slice A5 6 c5 := hV 0 (by simp)
          have v0 := (frame_at2 (us := us) hl (show (reT[44]?).join = some 0 from rfl)).trans e0
          obtain ⟨_, hz, HO, q, e4, hq⟩ : us 14 = .slice A5 6 c5 ∧ B ≤ w'.heap.size ∧ Own .u8 5 w' B (.slice A5 6 c5) T1 ∧ ∃ q, us 4 = .slice (some ⟨q, 0, none⟩) 2 2 ∧ w'.heap[q]? = some (.cells #[.int .u8 44, .int .u8 ho] 5 (0, 0)) := hR
          have v4 := (frame_at2 (us := us) hl (show (reT[48]?).join = some 4 from rfl)).trans e4
          generalize frame reT a0 us = fr at *
          exact append_Jo (R := fun v w'' => (Below B w' w'' ∧ Below 0 w' w'') ∧ reR B (.slice A5 6 c5) 44 ho T1 H (H ++ sa) (H ++ sa ++ sb) 2 (upd us 5 v) w'') (.tmp 44) (.tmp 48) 26 rfl 5 i0 _ 1 Try.underlying26 T1'.out T2.out T3.out T4.out rfl B _ T1 (eval_tmp v0) HO w'.heap.size _ 2 2 [44, ho] (eval_tmp v4) (row_nums .u8 hq rfl 2 rfl) (by rw [LT1.out]; unfold maxLen; decide) (by rw [LT1.out]; decide) hz 8 (by rw [LT1.out]) fun A' c' w'' _ _ O' B' => ⟨belowB B', Nat.le_trans hz B'.size, by rw [upd_same]; exact EH.out ▸ O'⟩
        · refine stepE_val [] (by kernel_rfl) (by decide) (by decide) rfl fun us w' hB hG hV => ?_
          have o1 := (frame_old2 (us := us) (a := a0) (show (reT[1]?).join = none from rfl)).trans k1
          generalize frame reT a0 us = fr at *
          exact val_C (v := .pointer (some ⟨w.heap.size, 0, none⟩)) (w' := w') (by go_simp) (Below.refl _ _) rfl
        · refine stepE_val [6] (by kernel_rfl) (by decide) (by decide) rfl fun us w' hB hG hV => ?_
          have e6 : us 6 = .pointer (some ⟨w.heap.size, 0, none⟩) := hV 6 (by simp)
          have v6 := (frame_at2 (us := us) hl (show (reT[50]?).join = some 6 from rfl)).trans e6
          generalize frame reT a0 us = fr at *
          exact val_C (v := .pointer (some ⟨w.heap.size, 1, none⟩)) (w' := w') (by go_simp) (Below.refl _ _) rfl
        · refine stepE_val [7] (by kernel_rfl) (by decide) (by decide) rfl fun us w' hB hG hV => ?_
          have e7 : us 7 = .pointer (some ⟨w.heap.size, 1, none⟩) := hV 7 (by simp)
          have v7 := (frame_at2 (us := us) hl (show (reT[51]?).join = some 7 from rfl)).trans e7
          generalize frame reT a0 us = fr at *
          exact val_C (v := .slice (some ⟨w.heap.size, 1, none⟩) 16 16) (w' := w') (by go_simp) (Below.refl _ _) rfl
        · refine stepE_chain 2 rfl (by decide) [8] (by kernel_rfl) (by decide) rfl fun us w' hB hG hV hR => ?_
          have e8 : us 8 = .slice (some ⟨w.heap.size, 1, none⟩) 16 16 := hV 8 (by simp)
          have v8 := (frame_at2 (us := us) hl (show (reT[52]?).join = some 8 from rfl)).trans e8
          have vc := frame_at2 (us := us) hl (show (reT[49]?).join = some 5 from rfl)
          generalize frame reT a0 us = fr at *
          exact append_Jo (R := fun v w'' => (Below B w' w'' ∧ Below 0 w' w'') ∧ reR B (.slice A5 6 c5) 44 ho T1 H (H ++ sa) (H ++ sa ++ sb) 3 (upd us 9 v) w'') (.tmp 49) (.tmp 52) 26 rfl 5 i0 _ 1 Try.underlying26 T1'.out T2.out T3.out T4.out rfl B _ H (eval_tmp vc) hR.2 w'.heap.size _ 16 16 sa (eval_tmp v8) (SA.out w' hG) (by rw [L8.out]; unfold maxLen; decide) (by rw [L8.out]; decide) hR.1 24 (by rw [L8.out]) fun A' c' w'' _ _ O' B' => ⟨belowB B', Nat.le_trans hR.1 B'.size, by rw [upd_same]; exact O'⟩
        · refine stepE_val [] (by kernel_rfl) (by decide) (by decide) rfl fun us w' hB hG hV => ?_
          have o1 := (frame_old2 (us := us) (a := a0) (show (reT[1]?).join = none from rfl)).trans k1
          generalize frame reT a0 us = fr at *
          exact val_C (v := .pointer (some ⟨w.heap.size, 17, none⟩)) (w' := w') (by go_simp) (Below.refl _ _) rfl
        · refine stepE_val [10] (by kernel_rfl) (by decide) (by decide) rfl fun us w' hB hG hV => ?_
          have e10 : us 10 = .pointer (some ⟨w.heap.size, 17, none⟩) := hV 10 (by simp)
          have v10 := (frame_at2 (us := us) hl (show (reT[54]?).join = some 10 from rfl)).trans e10
          generalize frame reT a0 us = fr at *
          exact val_C (v := .pointer (some ⟨w.heap.size, 18, none⟩)) (w' := w') (by go_simp) (Below.refl _ _) rfl
        · refine stepE_val [11] (by kernel_rfl) (by decide) (by decide) rfl fun us w' hB hG hV => ?_
          have e11 : us 11 = .pointer (some ⟨w.heap.size, 18, none⟩) := hV 11 (by simp)
          have v11 := (frame_at2 (us := us) hl (show (reT[55]?).join = some 11 from rfl)).trans e11
          generalize frame reT a0 us = fr at *
          exact val_C (v := .slice (some ⟨w.heap.size, 18, none⟩) 16 16) (w' := w') (by go_simp) (Below.refl _ _) rfl
        · refine stepE_chain 3 rfl (by decide) [12] (by kernel_rfl) (by decide) rfl fun us w' hB hG hV hR => ?_
          have e12 : us 12 = .slice (some ⟨w.heap.size, 18, none⟩) 16 16 := hV 12 (by simp)
          have v12 := (frame_at2 (us := us) hl (show (reT[56]?).join = some 12 from rfl)).trans e12
          have vc := frame_at2 (us := us) hl (show (reT[53]?).join = some 9 from rfl)
          generalize frame reT a0 us = fr at *
          exact append_Jo (R := fun v w'' => (Below B w' w'' ∧ Below 0 w' w'') ∧ reR B (.slice A5 6 c5) 44 ho T1 H (H ++ sa) (H ++ sa ++ sb) 4 (upd us 13 v) w'') (.tmp 53) (.tmp 56) 26 rfl 5 i0 _ 1 Try.underlying26 T1'.out T2.out T3.out T4.out rfl B _ (H ++ sa) (eval_tmp vc) hR.2 w'.heap.size _ 16 16 sb (eval_tmp v12) (SB.out w' hG) (by rw [L24.out]; unfold maxLen; decide) (by rw [L24.out]; decide) hR.1 40 (by rw [L24.out]) fun A' c' w'' _ _ O' B' => ⟨belowB B', Nat.le_trans hR.1 B'.size, by rw [upd_same]; exact O'⟩
        · refine stepE_chain 4 rfl (by decide) [] (by kernel_rfl) (by decide) rfl fun us w' hB hG hV hR => ?_
          have vc := frame_at2 (us := us) hl (show (reT[57]?).join = some 13 from rfl)
          generalize frame reT a0 us = fr at *
          exact val_J (R := fun v w'' => (Below B w' w'' ∧ Below 0 w' w'') ∧ reR B (.slice A5 6 c5) 44 ho T1 H (H ++ sa) (H ++ sa ++ sb) 5 (upd us 14 v) w'') (v := us 13) (w' := w') (by go_simp) ⟨belowB (Below.refl _ _), hR.1, by rw [upd_same]; exact hR.2⟩
        · intro us w6 hB2 hG hV hR
          obtain ⟨_, hO⟩ : B ≤ w6.heap.size ∧ Own .u8 5 w6 B (us 14) (H ++ sa ++ sb) := hR
          have HO5 := Lib.hid (show Own .u8 5 w6 B (us 14) X40 by rw [← EX40.out]; exact hO)
          have HG5 := Lib.hid hG
          subst ha0
          simp only [frame, reT, fill]
          clear hV hG hl k1 k5 k7 hO HO SA SB
          generalize us 14 = vv at *
          generalize us 0 = x0 at *
          generalize us 1 = x1 at *
          generalize us 2 = x2 at *
          generalize us 3 = x3 at *
          generalize us 4 = x4 at *
          generalize us 5 = x5 at *
          generalize us 6 = x6 at *
          generalize us 7 = x7 at *
          generalize us 8 = x8 at *
          generalize us 9 = x9 at *
          generalize us 10 = x10 at *
          generalize us 11 = x11 at *
          generalize us 12 = x12 at *
          generalize us 13 = x13 at *
          clear hB2
          clear us
          go_upto_region 13 with fail
          refine with_act fun a0 ha0 => ?_
          have hl : rfT.length = a0.tmps.size := by rw [ha0]; rfl
          have k1 : a0.tmps[1]?.getD undef = .pointer (some ⟨w.heap.size, 0, none⟩) := by rw [ha0]; rfl
          have k4 : a0.tmps[4]?.getD undef = .slice AK 8 cK := by rw [ha0]; rfl
          have k7 : a0.tmps[7]?.getD undef = vv := by rw [ha0]; rfl
          refine wp_region_che (by kernel_rfl) rfT (by kernel_rfl) (by kernel_rfl) hl (fun i => if i = 6 then .slice none 0 0 else if i = 7 then .int .i64 0 else undef) (by rw [ha0]; rfl) (0) (Below B) [2, 5, 6] (by kernel_rfl) (by decide) (by decide) (fun w' => Below B w5 w' ∧ B ≤ w'.heap.size) (rfV w.heap.size B vv AK 8 cK A n c) (rfR B vv X40 (X40 ++ K) X NN) (Nat.zero_le _) ⟨HG5.out.1.trans (Below.refl _ _).drew, HG5.out.2⟩ ⟨HG5.out.2, HO5.out.keep fun _ _ _ => rfl⟩ (fun w1 w2 hb hd h => by rcases hd with hd | hd; exact ⟨h.1.trans (hd.mono h.2), Nat.le_trans h.2 hd.size⟩; exact ⟨h.1.trans hd, Nat.le_trans h.2 hd.size⟩) (fun i v w w' _ hd h => rfV.keep _ _ _ _ _ _ _ _ _ i v w w' hd h) (fun k us us' w w' h _ hb hR => rfR.keep _ _ _ _ _ _ k us us' w w' h hb hR) ⟨?_, ?_, ?_, ?_, ?_, ?_, ?_, ?_, trivial⟩ ?_
          · refine stepE_val [] (by kernel_rfl) (by decide) (by decide) rfl fun us w' hB hG hV => ?_
            have o7 := (frame_old2 (us := us) (a := a0) (show (rfT[7]?).join = none from rfl)).trans k7
            generalize frame rfT a0 us = fr at *
            exact val_C (v := vv) (w' := w') (by go_simp) (Below.refl _ _) rfl
          · refine stepE_val [] (by kernel_rfl) (by decide) (by decide) rfl fun us w' hB hG hV => ?_
            have o4 := (frame_old2 (us := us) (a := a0) (show (rfT[4]?).join = none from rfl)).trans k4
            generalize frame rfT a0 us = fr at *
            exact val_C (v := .slice AK 8 cK) (w' := w') (by go_simp) (Below.refl _ _) rfl
          · refine stepE_chain 0 rfl (by decide) [0, 1] (by kernel_rfl) (by decide) rfl fun us w' hB hG hV hR => ?_
            have e0 : us 0 = vv := hV 0 (by simp)
            have v0 := (frame_at2 (us := us) hl (show (rfT[58]?).join = some 0 from rfl)).trans e0
            have e1 : us 1 = .slice AK 8 cK := hV 1 (by simp)
            have v1 := (frame_at2 (us := us) hl (show (rfT[59]?).join = some 1 from rfl)).trans e1
            generalize frame rfT a0 us = fr at *
            exact append_Jo (R := fun v w'' => (Below B w' w'' ∧ Below 0 w' w'') ∧ rfR B vv X40 (X40 ++ K) X NN 1 (upd us 2 v) w'') (.tmp 58) (.tmp 59) 26 rfl 5 i0 _ 1 Try.underlying26 T1'.out T2.out T3.out T4.out rfl B _ X40 (eval_tmp v0) hR.2 w'.heap.size _ 8 cK K (eval_tmp v1) (PK.out w' hG) (by rw [LX40.out]; unfold maxLen; have := NK.out; omega) (by rw [LX40.out]; have := NK.out; omega) hR.1 (40 + 8) (by rw [LX40.out]) fun A' c' w'' _ _ O' B' => ⟨belowB B', Nat.le_trans hR.1 B'.size, by rw [upd_same]; exact O'⟩
          · refine stepE_val [] (by kernel_rfl) (by decide) (by decide) rfl fun us w' hB hG hV => ?_
            have o1 := (frame_old2 (us := us) (a := a0) (show (rfT[1]?).join = none from rfl)).trans k1
            generalize frame rfT a0 us = fr at *
            exact val_C (v := .pointer (some ⟨w.heap.size, 40, none⟩)) (w' := w') (by go_simp) (Below.refl _ _) rfl
          · refine stepE_val [3] (by kernel_rfl) (by decide) (by decide) rfl fun us w' hB hG hV => ?_
            have e3 : us 3 = .pointer (some ⟨w.heap.size, 40, none⟩) := hV 3 (by simp)
            have v3 := (frame_at2 (us := us) hl (show (rfT[61]?).join = some 3 from rfl)).trans e3
            have hc := K40.out w' hG
            generalize frame rfT a0 us = fr at *
            exact val_C (v := .slice A n c) (w' := w') (by go_simp) (Below.refl _ _) rfl
          · refine stepE_chain 1 rfl (by decide) [4] (by kernel_rfl) (by decide) rfl fun us w' hB hG hV hR => ?_
            have e4 : us 4 = .slice A n c := hV 4 (by simp)
            have v4 := (frame_at2 (us := us) hl (show (rfT[62]?).join = some 4 from rfl)).trans e4
            have vc := frame_at2 (us := us) hl (show (rfT[60]?).join = some 2 from rfl)
            generalize frame rfT a0 us = fr at *
            exact append_Jo (R := fun v w'' => (Below B w' w'' ∧ Below 0 w' w'') ∧ rfR B vv X40 (X40 ++ K) X NN 2 (upd us 5 v) w'') (.tmp 60) (.tmp 62) 26 rfl 5 i0 _ 1 Try.underlying26 T1'.out T2.out T3.out T4.out rfl B _ (X40 ++ K) (eval_tmp vc) hR.2 w'.heap.size _ n c xs (eval_tmp v4) (PX.out w' hG) (by rw [LX48.out]; unfold maxLen; have := NK.out; have := hn9.out; omega) (by rw [LX48.out]; have := NK.out; have := hn9.out; omega) hR.1 NN (by rw [LX48.out, ENN.out]) fun A' c' w'' _ _ O' B' => ⟨belowB B', Nat.le_trans hR.1 B'.size, by rw [upd_same]; exact EXX.out ▸ O', A', c', upd_same _ _ _⟩
          · refine stepE_chain 2 rfl (by decide) [] (by kernel_rfl) (by decide) rfl fun us w' hB hG hV hR => ?_
            have vc := frame_at2 (us := us) hl (show (rfT[63]?).join = some 5 from rfl)
            generalize frame rfT a0 us = fr at *
            exact val_J (R := fun v w'' => (Below B w' w'' ∧ Below 0 w' w'') ∧ rfR B vv X40 (X40 ++ K) X NN 3 (upd us 6 v) w'') (v := us 5) (w' := w') (by go_simp) ⟨belowB (Below.refl _ _), hR.1, by rw [upd_same]; exact hR.2.1, by rw [upd_same]; exact hR.2.2⟩
          · refine stepE_val [] (by kernel_rfl) (by decide) (by decide) rfl fun us w' hB hG hV => ?_
            generalize frame rfT a0 us = fr at *
            exact val_C (v := .int .i64 0) (w' := w') (by go_simp) (Below.refl _ _) rfl
          · intro us w8 hB2 hG hV hR
            have e7 : us 7 = .int .i64 0 := hV 7 (by decide) (by decide)
            obtain ⟨_, hO, AX, cX, e6⟩ : B ≤ w8.heap.size ∧ Own .u8 5 w8 B (us 6) X ∧ ∃ A c, us 6 = .slice A NN c := hR
            rw [e6] at hO
            have HO8 := Lib.hid hO
            have HG8 := Lib.hid hG.1
            subst ha0
            simp only [frame, rfT, fill]
            rw [e6, e7]
            clear hV hG hl k1 k4 k7 e6 e7 hO
            go_wp2_with fail
            go_ret2
            exact ⟨AX, NN, cX, rfl, HO8.out.less LWB.out, BW5.out.trans (HG8.out.mono LWB.out)⟩
    · obtain rfl : F = of + 1 := by simpa using hF
      obtain ⟨F, hF2⟩ : ∃ F, F = of + 1 := ⟨_, rfl⟩
      have vf := IntWalk.u64_in (of + 1) (by omega)
      rw [← hF2] at EU1 vf
      have ef := hF2.symm
      clear hF hF2
      go_enter Try.func12, Try.ntmps12
      go_upto_region 1 with fail
      rw [← hW]
      clear hW
      go_upto_region 9 with (first
        | (refine wpList_load_row rfl 28 (.tmp 1) rfl w.heap.size rfl _ _ _ _ (KR.out _ HWW.out) Try.underlying28 rfl UI.out ?_)
        | (go_at_call 14; (refine (MC.out _).mono ?_); rintro e w2 ⟨rfl, BB⟩
           have HW2 := Lib.hid BB
           have k34 := K34.out w2 BB
           have k37 := K37.out w2 BB
           have k38 := K38.out w2 BB
           have k39 := K39.out w2 BB
           clear BB))
      have BWr := Lib.hid HW2.out
      clear k34 k37 k38 k39 vo vf ef
      obtain ⟨Bh, hBh⟩ : ∃ B, B = w2.heap.size := ⟨_, rfl⟩
      have LB := Lib.hid (Nat.le_of_eq hBh)
      have LBh := Lib.hid (Nat.le_of_eq hBh.symm)
      clear hBh
      have K34 := Lib.hid (fun w' (h : Gr w2 w') => K34.out w' (BWr.out.trans (Below.mono h BWr.out.size)))
      have K36 := Lib.hid (fun w' (h : Gr w2 w') => K36.out w' (BWr.out.trans (Below.mono h BWr.out.size)))
      refine with_act fun a0 ha0 => ?_
      have hl : rhT.length = a0.tmps.size := by rw [ha0]; rfl
      have k1 : a0.tmps[1]?.getD undef = .pointer (some ⟨w.heap.size, 0, none⟩) := by rw [ha0]; rfl
      have k6 : a0.tmps[6]?.getD undef = .int .u64 F := by rw [ha0]; rfl
      refine wp_region_vals (by kernel_rfl) rhT (by kernel_rfl) (by kernel_rfl) hl (fun i => if i = 11 then a0.tmps[4]?.getD undef else undef) (by rw [ha0]; rfl) (Gr w2) (rhV w.heap.size Bh pr F id U1 K) (gr_drew _) (rhV.keep _ _ _ _ _ _ _) ⟨?_, ?_, ?_, ?_, ?_, ?_, ?_, ?_, ?_, ?_, ?_, ?_, trivial⟩ ?_
      · refine step_plain [] (by kernel_rfl) rfl fun us w' hG hV => ?_
        have o1 := (frame_old2 (us := us) (a := a0) (show (rhT[1]?).join = none from rfl)).trans k1
        generalize frame rhT a0 us = fr at *
        exact val_ok (v := .pointer (some ⟨w.heap.size, 34, none⟩)) (w' := w') (by go_simp) hG (Below.refl _ _) rfl
      · refine step_plain [0] (by kernel_rfl) rfl fun us w' hG hV => ?_
        have e0 : us 0 = .pointer (some ⟨w.heap.size, 34, none⟩) := hV 0 (by simp)
        have v0 := (frame_at2 (us := us) hl (show (rhT[23]?).join = some 0 from rfl)).trans e0
        have hc := K34.out w' hG
        generalize frame rhT a0 us = fr at *
        exact val_ok (v := .int .u8 pr) (w' := w') (by go_simp) hG (Below.refl _ _) rfl
      · refine step_plain [1] (by kernel_rfl) rfl fun us w' hG hV => ?_
        have e1 : us 1 = .int .u8 pr := hV 1 (by simp)
        have v1 := (frame_at2 (us := us) hl (show (rhT[24]?).join = some 1 from rfl)).trans e1
        generalize frame rhT a0 us = fr at *
        exact val_ok (v := .slice (some ⟨w'.heap.size, 0, none⟩) 2 2) (w' := w'.alloc (.cells #[.int .u8 pr, .int .u8 0] 5)) (by go_simp) (hG.below (alloc_below _ _)) (alloc_below _ _) ⟨_, rfl, heap_alloc_new _ _⟩
      · refine step_plain [] (by kernel_rfl) rfl fun us w' hG hV => ?_
        have o6 := (frame_old2 (us := us) (a := a0) (show (rhT[6]?).join = none from rfl)).trans k6
        generalize frame rhT a0 us = fr at *
        exact val_ok (v := .int .u64 F) (w' := w') (by go_simp) hG (Below.refl _ _) rfl
      · refine step_plain [3] (by kernel_rfl) rfl fun us w' hG hV => ?_
        have e3 : us 3 = .int .u64 F := hV 3 (by simp)
        have v3 := (frame_at2 (us := us) hl (show (rhT[26]?).join = some 3 from rfl)).trans e3
        generalize frame rhT a0 us = fr at *
        exact val_ok (v := .slice (some ⟨w'.heap.size, 0, none⟩) 1 1) (w' := w'.alloc (.cells #[.int .u64 F] 50)) (by go_simp) (hG.below (alloc_below _ _)) (alloc_below _ _) ⟨_, rfl, heap_alloc_new _ _⟩
      · refine step_plain [2, 4] (by kernel_rfl) rfl fun us w' hG hV => ?_
        obtain ⟨q2, e2, r2⟩ := (show ∃ q, us 2 = .slice (some ⟨q, 0, none⟩) 2 2 ∧ w'.heap[q]? = some (.cells #[.int .u8 pr, .int .u8 0] 5 (0, 0)) from hV 2 (by simp))
        have v2 := (frame_at2 (us := us) hl (show (rhT[25]?).join = some 2 from rfl)).trans e2
        obtain ⟨q4, e4, r4⟩ := (show ∃ q, us 4 = .slice (some ⟨q, 0, none⟩) 1 1 ∧ w'.heap[q]? = some (.cells #[.int .u64 F] 50 (0, 0)) from hV 4 (by simp))
        have v4 := (frame_at2 (us := us) hl (show (rhT[27]?).join = some 4 from rfl)).trans e4
        generalize frame rhT a0 us = fr at *
        exact call_ok (f := 26) (args := #[.slice (some ⟨q2, 0, none⟩) 2 2, .int .i64 2, .slice (some ⟨q4, 0, none⟩) 1 1]) (by go_simp) ((rput_key (bs := [pr, 0]) (ns := [F]) 2 2 4 U1 rfl (by decide) ⟨row_nums .u8 r2 rfl 2 rfl, Y2.out, (by decide), (by decide)⟩ (row_nums .u64 r4 rfl 1 rfl) (by decide) (by decide) EU1.out LU1.out).mono fun e w'' ⟨A', c', h1, h2, h3, h4⟩ => ⟨_, h1, hG.below h4, h4, A', c', rfl, h2.less (Nat.le_trans LB.out (Below.size hG))⟩)
      · refine step_plain [] (by kernel_rfl) rfl fun us w' hG hV => ?_
        have o1 := (frame_old2 (us := us) (a := a0) (show (rhT[1]?).join = none from rfl)).trans k1
        generalize frame rhT a0 us = fr at *
        exact val_ok (v := .pointer (some ⟨w.heap.size, 36, none⟩)) (w' := w') (by go_simp) hG (Below.refl _ _) rfl
      · refine step_plain [6] (by kernel_rfl) rfl fun us w' hG hV => ?_
        have e6 : us 6 = .pointer (some ⟨w.heap.size, 36, none⟩) := hV 6 (by simp)
        have v6 := (frame_at2 (us := us) hl (show (rhT[29]?).join = some 6 from rfl)).trans e6
        have hc := K36.out w' hG
        generalize frame rhT a0 us = fr at *
        exact val_ok (v := .int .u32 id) (w' := w') (by go_simp) hG (Below.refl _ _) rfl
      · refine step_plain [7] (by kernel_rfl) rfl fun us w' hG hV => ?_
        have e7 : us 7 = .int .u32 id := hV 7 (by simp)
        have v7 := (frame_at2 (us := us) hl (show (rhT[30]?).join = some 7 from rfl)).trans e7
        have hw := VI.out
        generalize frame rhT a0 us = fr at *
        exact val_ok (v := .int .u64 id) (w' := w') (by go_simp) hG (Below.refl _ _) rfl
      · refine step_plain [8] (by kernel_rfl) rfl fun us w' hG hV => ?_
        have e8 : us 8 = .int .u64 id := hV 8 (by simp)
        have v8 := (frame_at2 (us := us) hl (show (rhT[31]?).join = some 8 from rfl)).trans e8
        generalize frame rhT a0 us = fr at *
        exact val_ok (v := .slice (some ⟨w'.heap.size, 0, none⟩) 1 1) (w' := w'.alloc (.cells #[.int .u64 id] 50)) (by go_simp) (hG.below (alloc_below _ _)) (alloc_below _ _) ⟨_, rfl, heap_alloc_new _ _⟩
      · refine step_plain [5, 9] (by kernel_rfl) rfl fun us w' hG hV => ?_
        obtain ⟨A5, c5, e5, P5⟩ := (show ∃ A' c', us 5 = .slice A' 4 c' ∧ Own .u8 5 w' Bh (.slice A' 4 c') U1 from hV 5 (by simp))
        have v5 := (frame_at2 (us := us) hl (show (rhT[28]?).join = some 5 from rfl)).trans e5
        obtain ⟨q9, e9, r9⟩ := (show ∃ q, us 9 = .slice (some ⟨q, 0, none⟩) 1 1 ∧ w'.heap[q]? = some (.cells #[.int .u64 id] 50 (0, 0)) from hV 9 (by simp))
        have v9 := (frame_at2 (us := us) hl (show (rhT[32]?).join = some 9 from rfl)).trans e9
        generalize frame rhT a0 us = fr at *
        exact call_ok (f := 26) (args := #[.slice A5 4 c5, .int .i64 4, .slice (some ⟨q9, 0, none⟩) 1 1]) (by go_simp) ((rput_key (bs := U1) (ns := [id]) 4 4 8 K rfl (by decide) ⟨P5.nums, YU1.out, (own_cap P5).1, (own_cap P5).2⟩ (row_nums .u64 r9 rfl 1 rfl) (by decide) (by decide) EU2.out LKK.out).mono fun e w'' ⟨A', c', h1, h2, h3, h4⟩ => ⟨_, h1, hG.below h4, h4, A', c', rfl, h2.less (Nat.le_trans LB.out (Below.size hG))⟩)
      · refine step_plain [10] (by kernel_rfl) rfl fun us w' hG hV => ?_
        obtain ⟨A10, c10, e10, P10⟩ := (show ∃ A' c', us 10 = .slice A' 8 c' ∧ Own .u8 5 w' Bh (.slice A' 8 c') K from hV 10 (by simp))
        have v10 := (frame_at2 (us := us) hl (show (rhT[33]?).join = some 10 from rfl)).trans e10
        generalize frame rhT a0 us = fr at *
        exact val_ok (v := .slice A10 8 c10) (w' := w') (by go_simp) hG (Below.refl _ _) ⟨A10, c10, rfl, P10⟩
      · intro us w3 hG hV
        obtain ⟨AK, cK, e11, OK⟩ := (show ∃ A' c', us 11 = .slice A' 8 c' ∧ Own .u8 5 w3 Bh (.slice A' 8 c') K from hV 11 (by decide))
        subst ha0
        simp only [frame, rhT, fill]
        rw [e11]
        have NK3 := Lib.hid OK.nums
        have BWW := Lib.hid (BWr.out.trans (Below.mono hG BWr.out.size))
        have BW3 := Lib.hid (HB.out.trans (BWW.out.mono HB.out.size))
        clear hV hl hG OK k1 k6 e11
        generalize us 0 = y0 at *
        generalize us 1 = y1 at *
        generalize us 2 = y2 at *
        generalize us 3 = y3 at *
        generalize us 4 = y4 at *
        generalize us 5 = y5 at *
        generalize us 6 = y6 at *
        generalize us 7 = y7 at *
        generalize us 8 = y8 at *
        generalize us 9 = y9 at *
        generalize us 10 = y10 at *
        clear us
        clear K34 K36
        obtain ⟨Wl, hWl⟩ : ∃ W, W = w3.alloc (.cells #[.int .u8 96, .int .u8 0, .int .u8 0, .int .u8 0] 5) := ⟨_, rfl⟩
        obtain ⟨Wm, hWm⟩ : ∃ W, W = Wl.alloc (.cells #[.int .u64 S] 50) := ⟨_, rfl⟩
        have Bl : Below w3.heap.size w3 Wl := by rw [hWl]; exact alloc_below _ _
        have Bm : Below Wl.heap.size Wl Wm := by rw [hWm]; exact alloc_below _ _
        have sl : Wl.heap.size = w3.heap.size + 1 := by rw [hWl]; exact alloc_size _ _
        have sm : Wm.heap.size = Wl.heap.size + 1 := by rw [hWm]; exact alloc_size _ _
        have KWm := Lib.hid (BW3.out.trans ((Bl.trans (Bm.mono Bl.size)).mono BW3.out.size))
        have N1 : Nums .u8 Wl (w3.heap.size + 1) (some ⟨w3.heap.size, 0, none⟩) 4 [96, 0, 0, 0] := by rw [hWl]; exact lit_nums .u8 w3 [96, 0, 0, 0] 5 _ rfl 4 rfl
        have N2 : Nums .u64 Wm (Wl.heap.size + 1) (some ⟨Wl.heap.size, 0, none⟩) 1 [S] := by rw [hWm]; exact lit_nums .u64 Wl [S] 50 _ rfl 1 rfl
        have PU := Lib.hid (rput_key (w := Wm) (A := some ⟨w3.heap.size, 0, none⟩) (n := 4) (c := 4) (P := some ⟨Wl.heap.size, 0, none⟩) (m := 1) (c2 := 1) (bs := [96, 0, 0, 0]) (ns := [S]) 2 2 6 T1 rfl (by decide) ⟨(N1.below (Bm.mono (by omega))).more (by omega), (by unfold Byte; simp), (by decide), (by decide)⟩ (N2.more (by omega)) (by decide) (by decide) ET1.out LT1.out)
        rw [sl] at PU
        have ws : IntKind.i64.wrap ((8 : Int) + (n : Int)) = S := by first | exact WS.out | (have h := WS.out; rw [show ((0 : Nat) : Int) + (n : Int) = (n : Int) by omega] at h; exact h)
        have vs := VS.out
        have k40 := K40W.out Wl (BWW.out.trans (Bl.mono BWW.out.size))
        rw [hWl] at k40
        clear N1 N2
        go_upto_region 12 with (first
          | (rw [← hWl, ← hWm]; go_at_call 26; (refine PU.out.mono ?_); rintro e w5 ⟨A5, c5, rfl, O5, K5, B5⟩
             have HO := Lib.hid O5
             have BW5 := Lib.hid (KWm.out.trans (B5.mono KWm.out.size))
             have B35 := Lib.hid ((Bl.trans (Bm.mono Bl.size)).trans (B5.mono (by omega)))
             have LM := Lib.hid (show w3.heap.size ≤ Wm.heap.size by omega)
             have HB5 := Lib.hid (show Wm.heap.size ≤ w5.heap.size from B5.size)
             clear O5 K5 B5))
        clear k40 ws vs PU
        obtain ⟨B, hB⟩ : ∃ B, B = Wm.heap.size := ⟨_, rfl⟩
        have LMB := Lib.hid (show w3.heap.size ≤ B by rw [hB]; exact LM.out)
        rw [← hB] at HO HB5
        have LWB := Lib.hid (show w.heap.size ≤ B by have := LMB.out; have := BW3.out.size; omega)
        clear hB hWm hWl Bl Bm sl sm LM KWm
        have KW := Lib.hid (fun w' (h : Below B w5 w' ∧ B ≤ w'.heap.size) => (show Below W.heap.size W w' from BWW.out.trans ((B35.out.trans (h.1.mono LMB.out)).mono BWW.out.size)))
        have K35 := Lib.hid (fun w' (h : Below B w5 w' ∧ B ≤ w'.heap.size) => K35W.out w' (KW.out w' h))
        have K40 := Lib.hid (fun w' (h : Below B w5 w' ∧ B ≤ w'.heap.size) => K40W.out w' (KW.out w' h))
        have SA := Lib.hid (fun w' (h : Below B w5 w' ∧ B ≤ w'.heap.size) => SA0.out w' (KW.out w' h))
        have SB := Lib.hid (fun w' (h : Below B w5 w' ∧ B ≤ w'.heap.size) => SB0.out w' (KW.out w' h))
        have PX := Lib.hid (fun w' (h : Below B w5 w' ∧ B ≤ w'.heap.size) => HX0.out w' (KW.out w' h))
        have PK := Lib.hid (fun w' (h : Below B w5 w' ∧ B ≤ w'.heap.size) => (show Nums .u8 w' w'.heap.size AK 8 K from (NK3.out.below (B35.out.trans (h.1.mono LMB.out))).more (Nat.le_trans LMB.out h.2)))
        clear KW B35 NK3 SA0 SB0 K35W K40W BWW
        refine with_act fun a0 ha0 => ?_
        have hl : reT.length = a0.tmps.size := by rw [ha0]; rfl
        have k1 : a0.tmps[1]?.getD undef = .pointer (some ⟨w.heap.size, 0, none⟩) := by rw [ha0]; rfl
        have k5 : a0.tmps[5]?.getD undef = .int .u8 44 := by rw [ha0]; rfl
        have k7 : a0.tmps[7]?.getD undef = .slice A5 6 c5 := by rw [ha0]; rfl
        refine wp_region_che (by kernel_rfl) reT (by kernel_rfl) (by kernel_rfl) hl (fun i => if i = 14 then a0.tmps[7]?.getD undef else undef) (by rw [ha0]; rfl) (0) (Below B) [4, 5, 9, 13, 14] (by kernel_rfl) (by decide) (by decide) (fun w' => Below B w5 w' ∧ B ≤ w'.heap.size) (reV w.heap.size B A5 c5 44 ho) (reR B (.slice A5 6 c5) 44 ho T1 H (H ++ sa) (H ++ sa ++ sb)) (Nat.zero_le _) ⟨(Below.refl _ _).drew.mono HB5.out, HB5.out⟩ ⟨by rw [ha0]; rfl, HB5.out, HO.out.keep fun _ _ _ => rfl⟩ (fun w1 w2 hb hd h => by rcases hd with hd | hd; exact ⟨h.1.trans (hd.mono h.2), Nat.le_trans h.2 hd.size⟩; exact ⟨h.1.trans hd, Nat.le_trans h.2 hd.size⟩) (fun i v w w' _ hd h => reV.keep _ _ _ _ _ _ i v w w' hd h) (fun k us us' w w' h _ hb hR => reR.keep _ _ _ _ _ _ _ _ k us us' w w' h hb hR) ⟨?_, ?_, ?_, ?_, ?_, ?_, ?_, ?_, ?_, ?_, ?_, ?_, ?_, ?_, ?_, trivial⟩ ?_
        · refine stepE_early 0 1 (.inl rfl) (.inr ⟨_, _, rfl, rfl, by kernel_rfl⟩) [] (by kernel_rfl) (by decide) (by decide) rfl fun us w' k hB hG hV hk hR => ?_
          have hq : us 14 = .slice A5 6 c5 := by
            obtain ⟨h1, h2⟩ := hk
            match k, h1, h2, hR with
            | 0, _, _, hR => exact hR.1
            | 1, _, _, hR => exact hR.1
          have o7 := (frame_at2 (us := us) hl (show (reT[7]?).join = some 14 from rfl)).trans hq
          generalize frame reT a0 us = fr at *
          exact val_C (v := .slice A5 6 c5) (w' := w') (by go_simp) (Below.refl _ _) rfl
        · refine stepE_val [] (by kernel_rfl) (by decide) (by decide) rfl fun us w' hB hG hV => ?_
          have o5 := (frame_old2 (us := us) (a := a0) (show (reT[5]?).join = none from rfl)).trans k5
          generalize frame reT a0 us = fr at *
          exact val_C (v := .int .u8 44) (w' := w') (by go_simp) (Below.refl _ _) rfl
        · refine stepE_val [] (by kernel_rfl) (by decide) (by decide) rfl fun us w' hB hG hV => ?_
          have o1 := (frame_old2 (us := us) (a := a0) (show (reT[1]?).join = none from rfl)).trans k1
          generalize frame reT a0 us = fr at *
          exact val_C (v := .pointer (some ⟨w.heap.size, 35, none⟩)) (w' := w') (by go_simp) (Below.refl _ _) rfl
        · refine stepE_val [2] (by kernel_rfl) (by decide) (by decide) rfl fun us w' hB hG hV => ?_
          have e2 : us 2 = .pointer (some ⟨w.heap.size, 35, none⟩) := hV 2 (by simp)
          have v2 := (frame_at2 (us := us) hl (show (reT[46]?).join = some 2 from rfl)).trans e2
          have hc := K35.out w' hG
          generalize frame reT a0 us = fr at *
          exact val_C (v := .int .u8 ho) (w' := w') (by go_simp) (Below.refl _ _) rfl
        · refine stepE_chain 0 rfl (by decide) [1, 3] (by kernel_rfl) (by decide) rfl fun us w' hB hG hV hR => ?_
          have e1 : us 1 = .int .u8 44 := hV 1 (by simp)
          have v1 := (frame_at2 (us := us) hl (show (reT[45]?).join = some 1 from rfl)).trans e1
          have e3 : us 3 = .int .u8 ho := hV 3 (by simp)
          have v3 := (frame_at2 (us := us) hl (show (reT[47]?).join = some 3 from rfl)).trans e3
          generalize frame reT a0 us = fr at *
          obtain ⟨h14, hz, HO⟩ : us 14 = .slice A5 6 c5 ∧ B ≤ w'.heap.size ∧ Own .u8 5 w' B (.slice A5 6 c5) T1 := hR
          exact val_J (R := fun v w'' => (Below B w' w'' ∧ Below 0 w' w'') ∧ reR B (.slice A5 6 c5) 44 ho T1 H (H ++ sa) (H ++ sa ++ sb) 1 (upd us 4 v) w'') (v := .slice (some ⟨w'.heap.size, 0, none⟩) 2 2) (w' := w'.alloc (.cells #[.int .u8 44, .int .u8 ho] 5)) (by go_simp) ⟨belowB ((alloc_below w' _).mono hz), by rw [upd_other _ _ (by decide)]; exact h14, by rw [alloc_size]; omega, HO.alloc _, w'.heap.size, upd_same _ _ _, heap_alloc_new w' _⟩
        · refine stepE_chain 1 rfl (by decide) [0] (by kernel_rfl) (by decide) rfl fun us w' hB hG hV hR => ?_
          have e0 : us 0 = .slice A5 6 c5 := hV 0 (by simp)
          have v0 := (frame_at2 (us := us) hl (show (reT[44]?).join = some 0 from rfl)).trans e0
          obtain ⟨_, hz, HO, q, e4, hq⟩ : us 14 = .slice A5 6 c5 ∧ B ≤ w'.heap.size ∧ Own .u8 5 w' B (.slice A5 6 c5) T1 ∧ ∃ q, us 4 = .slice (some ⟨q, 0, none⟩) 2 2 ∧ w'.heap[q]? = some (.cells #[.int .u8 44, .int .u8 ho] 5 (0, 0)) := hR
          have v4 := (frame_at2 (us := us) hl (show (reT[48]?).join = some 4 from rfl)).trans e4
          generalize frame reT a0 us = fr at *
          exact append_Jo (R := fun v w'' => (Below B w' w'' ∧ Below 0 w' w'') ∧ reR B (.slice A5 6 c5) 44 ho T1 H (H ++ sa) (H ++ sa ++ sb) 2 (upd us 5 v) w'') (.tmp 44) (.tmp 48) 26 rfl 5 i0 _ 1 Try.underlying26 T1'.out T2.out T3.out T4.out rfl B _ T1 (eval_tmp v0) HO w'.heap.size _ 2 2 [44, ho] (eval_tmp v4) (row_nums .u8 hq rfl 2 rfl) (by rw [LT1.out]; unfold maxLen; decide) (by rw [LT1.out]; decide) hz 8 (by rw [LT1.out]) fun A' c' w'' _ _ O' B' => ⟨belowB B', Nat.le_trans hz B'.size, by rw [upd_same]; exact EH.out ▸ O'⟩
        · refine stepE_val [] (by kernel_rfl) (by decide) (by decide) rfl fun us w' hB hG hV => ?_
          have o1 := (frame_old2 (us := us) (a := a0) (show (reT[1]?).join = none from rfl)).trans k1
          generalize frame reT a0 us = fr at *
          exact val_C (v := .pointer (some ⟨w.heap.size, 0, none⟩)) (w' := w') (by go_simp) (Below.refl _ _) rfl
        · refine stepE_val [6] (by kernel_rfl) (by decide) (by decide) rfl fun us w' hB hG hV => ?_
          have e6 : us 6 = .pointer (some ⟨w.heap.size, 0, none⟩) := hV 6 (by simp)
          have v6 := (frame_at2 (us := us) hl (show (reT[50]?).join = some 6 from rfl)).trans e6
          generalize frame reT a0 us = fr at *
          exact val_C (v := .pointer (some ⟨w.heap.size, 1, none⟩)) (w' := w') (by go_simp) (Below.refl _ _) rfl
        · refine stepE_val [7] (by kernel_rfl) (by decide) (by decide) rfl fun us w' hB hG hV => ?_
          have e7 : us 7 = .pointer (some ⟨w.heap.size, 1, none⟩) := hV 7 (by simp)
          have v7 := (frame_at2 (us := us) hl (show (reT[51]?).join = some 7 from rfl)).trans e7
          generalize frame reT a0 us = fr at *
          exact val_C (v := .slice (some ⟨w.heap.size, 1, none⟩) 16 16) (w' := w') (by go_simp) (Below.refl _ _) rfl
        · refine stepE_chain 2 rfl (by decide) [8] (by kernel_rfl) (by decide) rfl fun us w' hB hG hV hR => ?_
          have e8 : us 8 = .slice (some ⟨w.heap.size, 1, none⟩) 16 16 := hV 8 (by simp)
          have v8 := (frame_at2 (us := us) hl (show (reT[52]?).join = some 8 from rfl)).trans e8
          have vc := frame_at2 (us := us) hl (show (reT[49]?).join = some 5 from rfl)
          generalize frame reT a0 us = fr at *
          exact append_Jo (R := fun v w'' => (Below B w' w'' ∧ Below 0 w' w'') ∧ reR B (.slice A5 6 c5) 44 ho T1 H (H ++ sa) (H ++ sa ++ sb) 3 (upd us 9 v) w'') (.tmp 49) (.tmp 52) 26 rfl 5 i0 _ 1 Try.underlying26 T1'.out T2.out T3.out T4.out rfl B _ H (eval_tmp vc) hR.2 w'.heap.size _ 16 16 sa (eval_tmp v8) (SA.out w' hG) (by rw [L8.out]; unfold maxLen; decide) (by rw [L8.out]; decide) hR.1 24 (by rw [L8.out]) fun A' c' w'' _ _ O' B' => ⟨belowB B', Nat.le_trans hR.1 B'.size, by rw [upd_same]; exact O'⟩
        · refine stepE_val [] (by kernel_rfl) (by decide) (by decide) rfl fun us w' hB hG hV => ?_
          have o1 := (frame_old2 (us := us) (a := a0) (show (reT[1]?).join = none from rfl)).trans k1
          generalize frame reT a0 us = fr at *
          exact val_C (v := .pointer (some ⟨w.heap.size, 17, none⟩)) (w' := w') (by go_simp) (Below.refl _ _) rfl
        · refine stepE_val [10] (by kernel_rfl) (by decide) (by decide) rfl fun us w' hB hG hV => ?_
          have e10 : us 10 = .pointer (some ⟨w.heap.size, 17, none⟩) := hV 10 (by simp)
          have v10 := (frame_at2 (us := us) hl (show (reT[54]?).join = some 10 from rfl)).trans e10
          generalize frame reT a0 us = fr at *
          exact val_C (v := .pointer (some ⟨w.heap.size, 18, none⟩)) (w' := w') (by go_simp) (Below.refl _ _) rfl
        · refine stepE_val [11] (by kernel_rfl) (by decide) (by decide) rfl fun us w' hB hG hV => ?_
          have e11 : us 11 = .pointer (some ⟨w.heap.size, 18, none⟩) := hV 11 (by simp)
          have v11 := (frame_at2 (us := us) hl (show (reT[55]?).join = some 11 from rfl)).trans e11
          generalize frame reT a0 us = fr at *
          exact val_C (v := .slice (some ⟨w.heap.size, 18, none⟩) 16 16) (w' := w') (by go_simp) (Below.refl _ _) rfl
        · refine stepE_chain 3 rfl (by decide) [12] (by kernel_rfl) (by decide) rfl fun us w' hB hG hV hR => ?_
          have e12 : us 12 = .slice (some ⟨w.heap.size, 18, none⟩) 16 16 := hV 12 (by simp)
          have v12 := (frame_at2 (us := us) hl (show (reT[56]?).join = some 12 from rfl)).trans e12
          have vc := frame_at2 (us := us) hl (show (reT[53]?).join = some 9 from rfl)
          generalize frame reT a0 us = fr at *
          exact append_Jo (R := fun v w'' => (Below B w' w'' ∧ Below 0 w' w'') ∧ reR B (.slice A5 6 c5) 44 ho T1 H (H ++ sa) (H ++ sa ++ sb) 4 (upd us 13 v) w'') (.tmp 53) (.tmp 56) 26 rfl 5 i0 _ 1 Try.underlying26 T1'.out T2.out T3.out T4.out rfl B _ (H ++ sa) (eval_tmp vc) hR.2 w'.heap.size _ 16 16 sb (eval_tmp v12) (SB.out w' hG) (by rw [L24.out]; unfold maxLen; decide) (by rw [L24.out]; decide) hR.1 40 (by rw [L24.out]) fun A' c' w'' _ _ O' B' => ⟨belowB B', Nat.le_trans hR.1 B'.size, by rw [upd_same]; exact O'⟩
        · refine stepE_chain 4 rfl (by decide) [] (by kernel_rfl) (by decide) rfl fun us w' hB hG hV hR => ?_
          have vc := frame_at2 (us := us) hl (show (reT[57]?).join = some 13 from rfl)
          generalize frame reT a0 us = fr at *
          exact val_J (R := fun v w'' => (Below B w' w'' ∧ Below 0 w' w'') ∧ reR B (.slice A5 6 c5) 44 ho T1 H (H ++ sa) (H ++ sa ++ sb) 5 (upd us 14 v) w'') (v := us 13) (w' := w') (by go_simp) ⟨belowB (Below.refl _ _), hR.1, by rw [upd_same]; exact hR.2⟩
        · intro us w6 hB2 hG hV hR
          obtain ⟨_, hO⟩ : B ≤ w6.heap.size ∧ Own .u8 5 w6 B (us 14) (H ++ sa ++ sb) := hR
          have HO5 := Lib.hid (show Own .u8 5 w6 B (us 14) X40 by rw [← EX40.out]; exact hO)
          have HG5 := Lib.hid hG
          subst ha0
          simp only [frame, reT, fill]
          clear hV hG hl k1 k5 k7 hO HO SA SB
          generalize us 14 = vv at *
          generalize us 0 = x0 at *
          generalize us 1 = x1 at *
          generalize us 2 = x2 at *
          generalize us 3 = x3 at *
          generalize us 4 = x4 at *
          generalize us 5 = x5 at *
          generalize us 6 = x6 at *
          generalize us 7 = x7 at *
          generalize us 8 = x8 at *
          generalize us 9 = x9 at *
          generalize us 10 = x10 at *
          generalize us 11 = x11 at *
          generalize us 12 = x12 at *
          generalize us 13 = x13 at *
          clear hB2
          clear us
          go_upto_region 13 with fail
          refine with_act fun a0 ha0 => ?_
          have hl : rfT.length = a0.tmps.size := by rw [ha0]; rfl
          have k1 : a0.tmps[1]?.getD undef = .pointer (some ⟨w.heap.size, 0, none⟩) := by rw [ha0]; rfl
          have k4 : a0.tmps[4]?.getD undef = .slice AK 8 cK := by rw [ha0]; rfl
          have k7 : a0.tmps[7]?.getD undef = vv := by rw [ha0]; rfl
          refine wp_region_che (by kernel_rfl) rfT (by kernel_rfl) (by kernel_rfl) hl (fun i => if i = 6 then .slice none 0 0 else if i = 7 then .int .i64 0 else undef) (by rw [ha0]; rfl) (0) (Below B) [2, 5, 6] (by kernel_rfl) (by decide) (by decide) (fun w' => Below B w5 w' ∧ B ≤ w'.heap.size) (rfV w.heap.size B vv AK 8 cK A n c) (rfR B vv X40 (X40 ++ K) X NN) (Nat.zero_le _) ⟨HG5.out.1.trans (Below.refl _ _).drew, HG5.out.2⟩ ⟨HG5.out.2, HO5.out.keep fun _ _ _ => rfl⟩ (fun w1 w2 hb hd h => by rcases hd with hd | hd; exact ⟨h.1.trans (hd.mono h.2), Nat.le_trans h.2 hd.size⟩; exact ⟨h.1.trans hd, Nat.le_trans h.2 hd.size⟩) (fun i v w w' _ hd h => rfV.keep _ _ _ _ _ _ _ _ _ i v w w' hd h) (fun k us us' w w' h _ hb hR => rfR.keep _ _ _ _ _ _ k us us' w w' h hb hR) ⟨?_, ?_, ?_, ?_, ?_, ?_, ?_, ?_, trivial⟩ ?_
          · refine stepE_val [] (by kernel_rfl) (by decide) (by decide) rfl fun us w' hB hG hV => ?_
            have o7 := (frame_old2 (us := us) (a := a0) (show (rfT[7]?).join = none from rfl)).trans k7
            generalize frame rfT a0 us = fr at *
            exact val_C (v := vv) (w' := w') (by go_simp) (Below.refl _ _) rfl
          · refine stepE_val [] (by kernel_rfl) (by decide) (by decide) rfl fun us w' hB hG hV => ?_
            have o4 := (frame_old2 (us := us) (a := a0) (show (rfT[4]?).join = none from rfl)).trans k4
            generalize frame rfT a0 us = fr at *
            exact val_C (v := .slice AK 8 cK) (w' := w') (by go_simp) (Below.refl _ _) rfl
          · refine stepE_chain 0 rfl (by decide) [0, 1] (by kernel_rfl) (by decide) rfl fun us w' hB hG hV hR => ?_
            have e0 : us 0 = vv := hV 0 (by simp)
            have v0 := (frame_at2 (us := us) hl (show (rfT[58]?).join = some 0 from rfl)).trans e0
            have e1 : us 1 = .slice AK 8 cK := hV 1 (by simp)
            have v1 := (frame_at2 (us := us) hl (show (rfT[59]?).join = some 1 from rfl)).trans e1
            generalize frame rfT a0 us = fr at *
            exact append_Jo (R := fun v w'' => (Below B w' w'' ∧ Below 0 w' w'') ∧ rfR B vv X40 (X40 ++ K) X NN 1 (upd us 2 v) w'') (.tmp 58) (.tmp 59) 26 rfl 5 i0 _ 1 Try.underlying26 T1'.out T2.out T3.out T4.out rfl B _ X40 (eval_tmp v0) hR.2 w'.heap.size _ 8 cK K (eval_tmp v1) (PK.out w' hG) (by rw [LX40.out]; unfold maxLen; have := NK.out; omega) (by rw [LX40.out]; have := NK.out; omega) hR.1 (40 + 8) (by rw [LX40.out]) fun A' c' w'' _ _ O' B' => ⟨belowB B', Nat.le_trans hR.1 B'.size, by rw [upd_same]; exact O'⟩
          · refine stepE_val [] (by kernel_rfl) (by decide) (by decide) rfl fun us w' hB hG hV => ?_
            have o1 := (frame_old2 (us := us) (a := a0) (show (rfT[1]?).join = none from rfl)).trans k1
            generalize frame rfT a0 us = fr at *
            exact val_C (v := .pointer (some ⟨w.heap.size, 40, none⟩)) (w' := w') (by go_simp) (Below.refl _ _) rfl
          · refine stepE_val [3] (by kernel_rfl) (by decide) (by decide) rfl fun us w' hB hG hV => ?_
            have e3 : us 3 = .pointer (some ⟨w.heap.size, 40, none⟩) := hV 3 (by simp)
            have v3 := (frame_at2 (us := us) hl (show (rfT[61]?).join = some 3 from rfl)).trans e3
            have hc := K40.out w' hG
            generalize frame rfT a0 us = fr at *
            exact val_C (v := .slice A n c) (w' := w') (by go_simp) (Below.refl _ _) rfl
          · refine stepE_chain 1 rfl (by decide) [4] (by kernel_rfl) (by decide) rfl fun us w' hB hG hV hR => ?_
            have e4 : us 4 = .slice A n c := hV 4 (by simp)
            have v4 := (frame_at2 (us := us) hl (show (rfT[62]?).join = some 4 from rfl)).trans e4
            have vc := frame_at2 (us := us) hl (show (rfT[60]?).join = some 2 from rfl)
            generalize frame rfT a0 us = fr at *
            exact append_Jo (R := fun v w'' => (Below B w' w'' ∧ Below 0 w' w'') ∧ rfR B vv X40 (X40 ++ K) X NN 2 (upd us 5 v) w'') (.tmp 60) (.tmp 62) 26 rfl 5 i0 _ 1 Try.underlying26 T1'.out T2.out T3.out T4.out rfl B _ (X40 ++ K) (eval_tmp vc) hR.2 w'.heap.size _ n c xs (eval_tmp v4) (PX.out w' hG) (by rw [LX48.out]; unfold maxLen; have := NK.out; have := hn9.out; omega) (by rw [LX48.out]; have := NK.out; have := hn9.out; omega) hR.1 NN (by rw [LX48.out, ENN.out]) fun A' c' w'' _ _ O' B' => ⟨belowB B', Nat.le_trans hR.1 B'.size, by rw [upd_same]; exact EXX.out ▸ O', A', c', upd_same _ _ _⟩
          · refine stepE_chain 2 rfl (by decide) [] (by kernel_rfl) (by decide) rfl fun us w' hB hG hV hR => ?_
            have vc := frame_at2 (us := us) hl (show (rfT[63]?).join = some 5 from rfl)
            generalize frame rfT a0 us = fr at *
            exact val_J (R := fun v w'' => (Below B w' w'' ∧ Below 0 w' w'') ∧ rfR B vv X40 (X40 ++ K) X NN 3 (upd us 6 v) w'') (v := us 5) (w' := w') (by go_simp) ⟨belowB (Below.refl _ _), hR.1, by rw [upd_same]; exact hR.2.1, by rw [upd_same]; exact hR.2.2⟩
          · refine stepE_val [] (by kernel_rfl) (by decide) (by decide) rfl fun us w' hB hG hV => ?_
            generalize frame rfT a0 us = fr at *
            exact val_C (v := .int .i64 0) (w' := w') (by go_simp) (Below.refl _ _) rfl
          · intro us w8 hB2 hG hV hR
            have e7 : us 7 = .int .i64 0 := hV 7 (by decide) (by decide)
            obtain ⟨_, hO, AX, cX, e6⟩ : B ≤ w8.heap.size ∧ Own .u8 5 w8 B (us 6) X ∧ ∃ A c, us 6 = .slice A NN c := hR
            rw [e6] at hO
            have HO8 := Lib.hid hO
            have HG8 := Lib.hid hG.1
            subst ha0
            simp only [frame, rfT, fill]
            rw [e6, e7]
            clear hV hG hl k1 k4 k7 e6 e7 hO
            go_wp2_with fail
            go_ret2
            exact ⟨AX, NN, cX, rfl, HO8.out.less LWB.out, BW5.out.trans (HG8.out.mono LWB.out)⟩
  · obtain rfl : nx = pr := by simpa using enx
    obtain rfl : K = [] := ek.1 rfl
    obtain rfl : kn = 0 := by simpa using ek.2
    clear enx ek hcut hF
    go_enter Try.func12, Try.ntmps12
    go_upto_region 1 with fail
    rw [← hW]
    clear hW
    go_upto_region 11 with (first
      | (refine wpList_load_row rfl 28 (.tmp 1) rfl w.heap.size rfl _ _ _ _ (KR.out _ HWW.out) Try.underlying28 rfl UI.out ?_)
      | (go_at_call 14; (refine (MC.out _).mono ?_); rintro e w2 ⟨rfl, BB⟩
         have HW2 := Lib.hid BB
         have k34 := K34.out w2 BB
         have k37 := K37.out w2 BB
         have k38 := K38.out w2 BB
         have k39 := K39.out w2 BB
         clear BB))
    clear k34 k37 k38 k39
    obtain ⟨w3, hw3⟩ : ∃ w3, w3 = w2 := ⟨_, rfl⟩
    subst hw3
    obtain ⟨AK, cK, hAK, hcK, NK3⟩ : ∃ (AK : Option Addr) (cK : Nat), AK = none ∧ cK = 0 ∧ Hid (Nums .u8 w3 w3.heap.size AK 0 ([] : List Int)) := ⟨none, 0, rfl, rfl, Lib.hid (Nums.none_ 0)⟩
    have BWW := Lib.hid HW2.out
    have BW3 := Lib.hid (HB.out.trans (BWW.out.mono HB.out.size))
    rw [show (Value.slice none 0 0) = .slice AK 0 cK by rw [hAK, hcK]]
    clear hAK hcK
    obtain ⟨Wl, hWl⟩ : ∃ W, W = w3.alloc (.cells #[.int .u8 96, .int .u8 0, .int .u8 0, .int .u8 0] 5) := ⟨_, rfl⟩
    obtain ⟨Wm, hWm⟩ : ∃ W, W = Wl.alloc (.cells #[.int .u64 S] 50) := ⟨_, rfl⟩
    have Bl : Below w3.heap.size w3 Wl := by rw [hWl]; exact alloc_below _ _
    have Bm : Below Wl.heap.size Wl Wm := by rw [hWm]; exact alloc_below _ _
    have sl : Wl.heap.size = w3.heap.size + 1 := by rw [hWl]; exact alloc_size _ _
    have sm : Wm.heap.size = Wl.heap.size + 1 := by rw [hWm]; exact alloc_size _ _
    have KWm := Lib.hid (BW3.out.trans ((Bl.trans (Bm.mono Bl.size)).mono BW3.out.size))
    have N1 : Nums .u8 Wl (w3.heap.size + 1) (some ⟨w3.heap.size, 0, none⟩) 4 [96, 0, 0, 0] := by rw [hWl]; exact lit_nums .u8 w3 [96, 0, 0, 0] 5 _ rfl 4 rfl
    have N2 : Nums .u64 Wm (Wl.heap.size + 1) (some ⟨Wl.heap.size, 0, none⟩) 1 [S] := by rw [hWm]; exact lit_nums .u64 Wl [S] 50 _ rfl 1 rfl
    have PU := Lib.hid (rput_key (w := Wm) (A := some ⟨w3.heap.size, 0, none⟩) (n := 4) (c := 4) (P := some ⟨Wl.heap.size, 0, none⟩) (m := 1) (c2 := 1) (bs := [96, 0, 0, 0]) (ns := [S]) 2 2 6 T1 rfl (by decide) ⟨(N1.below (Bm.mono (by omega))).more (by omega), (by unfold Byte; simp), (by decide), (by decide)⟩ (N2.more (by omega)) (by decide) (by decide) ET1.out LT1.out)
    rw [sl] at PU
    have ws : IntKind.i64.wrap ((n : Int)) = S := by first | exact WS.out | (have h := WS.out; rw [show ((0 : Nat) : Int) + (n : Int) = (n : Int) by omega] at h; exact h)
    have vs := VS.out
    have k40 := K40W.out Wl (BWW.out.trans (Bl.mono BWW.out.size))
    rw [hWl] at k40
    clear N1 N2
    go_upto_region 12 with (first
      | (rw [← hWl, ← hWm]; go_at_call 26; (refine PU.out.mono ?_); rintro e w5 ⟨A5, c5, rfl, O5, K5, B5⟩
         have HO := Lib.hid O5
         have BW5 := Lib.hid (KWm.out.trans (B5.mono KWm.out.size))
         have B35 := Lib.hid ((Bl.trans (Bm.mono Bl.size)).trans (B5.mono (by omega)))
         have LM := Lib.hid (show w3.heap.size ≤ Wm.heap.size by omega)
         have HB5 := Lib.hid (show Wm.heap.size ≤ w5.heap.size from B5.size)
         clear O5 K5 B5))
    clear k40 ws vs PU
    obtain ⟨B, hB⟩ : ∃ B, B = Wm.heap.size := ⟨_, rfl⟩
    have LMB := Lib.hid (show w3.heap.size ≤ B by rw [hB]; exact LM.out)
    rw [← hB] at HO HB5
    have LWB := Lib.hid (show w.heap.size ≤ B by have := LMB.out; have := BW3.out.size; omega)
    clear hB hWm hWl Bl Bm sl sm LM KWm
    have KW := Lib.hid (fun w' (h : Below B w5 w' ∧ B ≤ w'.heap.size) => (show Below W.heap.size W w' from BWW.out.trans ((B35.out.trans (h.1.mono LMB.out)).mono BWW.out.size)))
    have K35 := Lib.hid (fun w' (h : Below B w5 w' ∧ B ≤ w'.heap.size) => K35W.out w' (KW.out w' h))
    have K40 := Lib.hid (fun w' (h : Below B w5 w' ∧ B ≤ w'.heap.size) => K40W.out w' (KW.out w' h))
    have SA := Lib.hid (fun w' (h : Below B w5 w' ∧ B ≤ w'.heap.size) => SA0.out w' (KW.out w' h))
    have SB := Lib.hid (fun w' (h : Below B w5 w' ∧ B ≤ w'.heap.size) => SB0.out w' (KW.out w' h))
    have PX := Lib.hid (fun w' (h : Below B w5 w' ∧ B ≤ w'.heap.size) => HX0.out w' (KW.out w' h))
    have PK := Lib.hid (fun w' (h : Below B w5 w' ∧ B ≤ w'.heap.size) => (show Nums .u8 w' w'.heap.size AK 0 [] from (NK3.out.below (B35.out.trans (h.1.mono LMB.out))).more (Nat.le_trans LMB.out h.2)))
    clear KW B35 NK3 SA0 SB0 K35W K40W BWW
    refine with_act fun a0 ha0 => ?_
    have hl : reT.length = a0.tmps.size := by rw [ha0]; rfl
    have k1 : a0.tmps[1]?.getD undef = .pointer (some ⟨w.heap.size, 0, none⟩) := by rw [ha0]; rfl
    have k5 : a0.tmps[5]?.getD undef = .int .u8 nx := by rw [ha0]; rfl
    have k7 : a0.tmps[7]?.getD undef = .slice A5 6 c5 := by rw [ha0]; rfl
    refine wp_region_che (by kernel_rfl) reT (by kernel_rfl) (by kernel_rfl) hl (fun i => if i = 14 then a0.tmps[7]?.getD undef else undef) (by rw [ha0]; rfl) (0) (Below B) [4, 5, 9, 13, 14] (by kernel_rfl) (by decide) (by decide) (fun w' => Below B w5 w' ∧ B ≤ w'.heap.size) (reV w.heap.size B A5 c5 nx ho) (reR B (.slice A5 6 c5) nx ho T1 H (H ++ sa) (H ++ sa ++ sb)) (Nat.zero_le _) ⟨(Below.refl _ _).drew.mono HB5.out, HB5.out⟩ ⟨by rw [ha0]; rfl, HB5.out, HO.out.keep fun _ _ _ => rfl⟩ (fun w1 w2 hb hd h => by rcases hd with hd | hd; exact ⟨h.1.trans (hd.mono h.2), Nat.le_trans h.2 hd.size⟩; exact ⟨h.1.trans hd, Nat.le_trans h.2 hd.size⟩) (fun i v w w' _ hd h => reV.keep _ _ _ _ _ _ i v w w' hd h) (fun k us us' w w' h _ hb hR => reR.keep _ _ _ _ _ _ _ _ k us us' w w' h hb hR) ⟨?_, ?_, ?_, ?_, ?_, ?_, ?_, ?_, ?_, ?_, ?_, ?_, ?_, ?_, ?_, trivial⟩ ?_
    · refine stepE_early 0 1 (.inl rfl) (.inr ⟨_, _, rfl, rfl, by kernel_rfl⟩) [] (by kernel_rfl) (by decide) (by decide) rfl fun us w' k hB hG hV hk hR => ?_
      have hq : us 14 = .slice A5 6 c5 := by
        obtain ⟨h1, h2⟩ := hk
        match k, h1, h2, hR with
        | 0, _, _, hR => exact hR.1
        | 1, _, _, hR => exact hR.1
      have o7 := (frame_at2 (us := us) hl (show (reT[7]?).join = some 14 from rfl)).trans hq
      generalize frame reT a0 us = fr at *
      exact val_C (v := .slice A5 6 c5) (w' := w') (by go_simp) (Below.refl _ _) rfl
    · refine stepE_val [] (by kernel_rfl) (by decide) (by decide) rfl fun us w' hB hG hV => ?_
      have o5 := (frame_old2 (us := us) (a := a0) (show (reT[5]?).join = none from rfl)).trans k5
      generalize frame reT a0 us = fr at *
      exact val_C (v := .int .u8 nx) (w' := w') (by go_simp) (Below.refl _ _) rfl
    · refine stepE_val [] (by kernel_rfl) (by decide) (by decide) rfl fun us w' hB hG hV => ?_
      have o1 := (frame_old2 (us := us) (a := a0) (show (reT[1]?).join = none from rfl)).trans k1
      generalize frame reT a0 us = fr at *
      exact val_C (v := .pointer (some ⟨w.heap.size, 35, none⟩)) (w' := w') (by go_simp) (Below.refl _ _) rfl
    · refine stepE_val [2] (by kernel_rfl) (by decide) (by decide) rfl fun us w' hB hG hV => ?_
      have e2 : us 2 = .pointer (some ⟨w.heap.size, 35, none⟩) := hV 2 (by simp)
      have v2 := (frame_at2 (us := us) hl (show (reT[46]?).join = some 2 from rfl)).trans e2
      have hc := K35.out w' hG
      generalize frame reT a0 us = fr at *
      exact val_C (v := .int .u8 ho) (w' := w') (by go_simp) (Below.refl _ _) rfl
    · refine stepE_chain 0 rfl (by decide) [1, 3] (by kernel_rfl) (by decide) rfl fun us w' hB hG hV hR => ?_
      have e1 : us 1 = .int .u8 nx := hV 1 (by simp)
      have v1 := (frame_at2 (us := us) hl (show (reT[45]?).join = some 1 from rfl)).trans e1
      have e3 : us 3 = .int .u8 ho := hV 3 (by simp)
      have v3 := (frame_at2 (us := us) hl (show (reT[47]?).join = some 3 from rfl)).trans e3
      generalize frame reT a0 us = fr at *
      obtain ⟨h14, hz, HO⟩ : us 14 = .slice A5 6 c5 ∧ B ≤ w'.heap.size ∧ Own .u8 5 w' B (.slice A5 6 c5) T1 := hR
      exact val_J (R := fun v w'' => (Below B w' w'' ∧ Below 0 w' w'') ∧ reR B (.slice A5 6 c5) nx ho T1 H (H ++ sa) (H ++ sa ++ sb) 1 (upd us 4 v) w'') (v := .slice (some ⟨w'.heap.size, 0, none⟩) 2 2) (w' := w'.alloc (.cells #[.int .u8 nx, .int .u8 ho] 5)) (by go_simp) ⟨belowB ((alloc_below w' _).mono hz), by rw [upd_other _ _ (by decide)]; exact h14, by rw [alloc_size]; omega, HO.alloc _, w'.heap.size, upd_same _ _ _, heap_alloc_new w' _⟩
    · refine stepE_chain 1 rfl (by decide) [0] (by kernel_rfl) (by decide) rfl fun us w' hB hG hV hR => ?_
      have e0 : us 0 = .slice A5 6 c5 := hV 0 (by simp)
      have v0 := (frame_at2 (us := us) hl (show (reT[44]?).join = some 0 from rfl)).trans e0
      obtain ⟨_, hz, HO, q, e4, hq⟩ : us 14 = .slice A5 6 c5 ∧ B ≤ w'.heap.size ∧ Own .u8 5 w' B (.slice A5 6 c5) T1 ∧ ∃ q, us 4 = .slice (some ⟨q, 0, none⟩) 2 2 ∧ w'.heap[q]? = some (.cells #[.int .u8 nx, .int .u8 ho] 5 (0, 0)) := hR
      have v4 := (frame_at2 (us := us) hl (show (reT[48]?).join = some 4 from rfl)).trans e4
      generalize frame reT a0 us = fr at *
      exact append_Jo (R := fun v w'' => (Below B w' w'' ∧ Below 0 w' w'') ∧ reR B (.slice A5 6 c5) nx ho T1 H (H ++ sa) (H ++ sa ++ sb) 2 (upd us 5 v) w'') (.tmp 44) (.tmp 48) 26 rfl 5 i0 _ 1 Try.underlying26 T1'.out T2.out T3.out T4.out rfl B _ T1 (eval_tmp v0) HO w'.heap.size _ 2 2 [nx, ho] (eval_tmp v4) (row_nums .u8 hq rfl 2 rfl) (by rw [LT1.out]; unfold maxLen; decide) (by rw [LT1.out]; decide) hz 8 (by rw [LT1.out]) fun A' c' w'' _ _ O' B' => ⟨belowB B', Nat.le_trans hz B'.size, by rw [upd_same]; exact EH.out ▸ O'⟩
    · refine stepE_val [] (by kernel_rfl) (by decide) (by decide) rfl fun us w' hB hG hV => ?_
      have o1 := (frame_old2 (us := us) (a := a0) (show (reT[1]?).join = none from rfl)).trans k1
      generalize frame reT a0 us = fr at *
      exact val_C (v := .pointer (some ⟨w.heap.size, 0, none⟩)) (w' := w') (by go_simp) (Below.refl _ _) rfl
    · refine stepE_val [6] (by kernel_rfl) (by decide) (by decide) rfl fun us w' hB hG hV => ?_
      have e6 : us 6 = .pointer (some ⟨w.heap.size, 0, none⟩) := hV 6 (by simp)
      have v6 := (frame_at2 (us := us) hl (show (reT[50]?).join = some 6 from rfl)).trans e6
      generalize frame reT a0 us = fr at *
      exact val_C (v := .pointer (some ⟨w.heap.size, 1, none⟩)) (w' := w') (by go_simp) (Below.refl _ _) rfl
    · refine stepE_val [7] (by kernel_rfl) (by decide) (by decide) rfl fun us w' hB hG hV => ?_
      have e7 : us 7 = .pointer (some ⟨w.heap.size, 1, none⟩) := hV 7 (by simp)
      have v7 := (frame_at2 (us := us) hl (show (reT[51]?).join = some 7 from rfl)).trans e7
      generalize frame reT a0 us = fr at *
      exact val_C (v := .slice (some ⟨w.heap.size, 1, none⟩) 16 16) (w' := w') (by go_simp) (Below.refl _ _) rfl
    · refine stepE_chain 2 rfl (by decide) [8] (by kernel_rfl) (by decide) rfl fun us w' hB hG hV hR => ?_
      have e8 : us 8 = .slice (some ⟨w.heap.size, 1, none⟩) 16 16 := hV 8 (by simp)
      have v8 := (frame_at2 (us := us) hl (show (reT[52]?).join = some 8 from rfl)).trans e8
      have vc := frame_at2 (us := us) hl (show (reT[49]?).join = some 5 from rfl)
      generalize frame reT a0 us = fr at *
      exact append_Jo (R := fun v w'' => (Below B w' w'' ∧ Below 0 w' w'') ∧ reR B (.slice A5 6 c5) nx ho T1 H (H ++ sa) (H ++ sa ++ sb) 3 (upd us 9 v) w'') (.tmp 49) (.tmp 52) 26 rfl 5 i0 _ 1 Try.underlying26 T1'.out T2.out T3.out T4.out rfl B _ H (eval_tmp vc) hR.2 w'.heap.size _ 16 16 sa (eval_tmp v8) (SA.out w' hG) (by rw [L8.out]; unfold maxLen; decide) (by rw [L8.out]; decide) hR.1 24 (by rw [L8.out]) fun A' c' w'' _ _ O' B' => ⟨belowB B', Nat.le_trans hR.1 B'.size, by rw [upd_same]; exact O'⟩
    · refine stepE_val [] (by kernel_rfl) (by decide) (by decide) rfl fun us w' hB hG hV => ?_
      have o1 := (frame_old2 (us := us) (a := a0) (show (reT[1]?).join = none from rfl)).trans k1
      generalize frame reT a0 us = fr at *
      exact val_C (v := .pointer (some ⟨w.heap.size, 17, none⟩)) (w' := w') (by go_simp) (Below.refl _ _) rfl
    · refine stepE_val [10] (by kernel_rfl) (by decide) (by decide) rfl fun us w' hB hG hV => ?_
      have e10 : us 10 = .pointer (some ⟨w.heap.size, 17, none⟩) := hV 10 (by simp)
      have v10 := (frame_at2 (us := us) hl (show (reT[54]?).join = some 10 from rfl)).trans e10
      generalize frame reT a0 us = fr at *
      exact val_C (v := .pointer (some ⟨w.heap.size, 18, none⟩)) (w' := w') (by go_simp) (Below.refl _ _) rfl
    · refine stepE_val [11] (by kernel_rfl) (by decide) (by decide) rfl fun us w' hB hG hV => ?_
      have e11 : us 11 = .pointer (some ⟨w.heap.size, 18, none⟩) := hV 11 (by simp)
      have v11 := (frame_at2 (us := us) hl (show (reT[55]?).join = some 11 from rfl)).trans e11
      generalize frame reT a0 us = fr at *
      exact val_C (v := .slice (some ⟨w.heap.size, 18, none⟩) 16 16) (w' := w') (by go_simp) (Below.refl _ _) rfl
    · refine stepE_chain 3 rfl (by decide) [12] (by kernel_rfl) (by decide) rfl fun us w' hB hG hV hR => ?_
      have e12 : us 12 = .slice (some ⟨w.heap.size, 18, none⟩) 16 16 := hV 12 (by simp)
      have v12 := (frame_at2 (us := us) hl (show (reT[56]?).join = some 12 from rfl)).trans e12
      have vc := frame_at2 (us := us) hl (show (reT[53]?).join = some 9 from rfl)
      generalize frame reT a0 us = fr at *
      exact append_Jo (R := fun v w'' => (Below B w' w'' ∧ Below 0 w' w'') ∧ reR B (.slice A5 6 c5) nx ho T1 H (H ++ sa) (H ++ sa ++ sb) 4 (upd us 13 v) w'') (.tmp 53) (.tmp 56) 26 rfl 5 i0 _ 1 Try.underlying26 T1'.out T2.out T3.out T4.out rfl B _ (H ++ sa) (eval_tmp vc) hR.2 w'.heap.size _ 16 16 sb (eval_tmp v12) (SB.out w' hG) (by rw [L24.out]; unfold maxLen; decide) (by rw [L24.out]; decide) hR.1 40 (by rw [L24.out]) fun A' c' w'' _ _ O' B' => ⟨belowB B', Nat.le_trans hR.1 B'.size, by rw [upd_same]; exact O'⟩
    · refine stepE_chain 4 rfl (by decide) [] (by kernel_rfl) (by decide) rfl fun us w' hB hG hV hR => ?_
      have vc := frame_at2 (us := us) hl (show (reT[57]?).join = some 13 from rfl)
      generalize frame reT a0 us = fr at *
      exact val_J (R := fun v w'' => (Below B w' w'' ∧ Below 0 w' w'') ∧ reR B (.slice A5 6 c5) nx ho T1 H (H ++ sa) (H ++ sa ++ sb) 5 (upd us 14 v) w'') (v := us 13) (w' := w') (by go_simp) ⟨belowB (Below.refl _ _), hR.1, by rw [upd_same]; exact hR.2⟩
    · intro us w6 hB2 hG hV hR
      obtain ⟨_, hO⟩ : B ≤ w6.heap.size ∧ Own .u8 5 w6 B (us 14) (H ++ sa ++ sb) := hR
      have HO5 := Lib.hid (show Own .u8 5 w6 B (us 14) X40 by rw [← EX40.out]; exact hO)
      have HG5 := Lib.hid hG
      subst ha0
      simp only [frame, reT, fill]
      clear hV hG hl k1 k5 k7 hO HO SA SB
      generalize us 14 = vv at *
      generalize us 0 = x0 at *
      generalize us 1 = x1 at *
      generalize us 2 = x2 at *
      generalize us 3 = x3 at *
      generalize us 4 = x4 at *
      generalize us 5 = x5 at *
      generalize us 6 = x6 at *
      generalize us 7 = x7 at *
      generalize us 8 = x8 at *
      generalize us 9 = x9 at *
      generalize us 10 = x10 at *
      generalize us 11 = x11 at *
      generalize us 12 = x12 at *
      generalize us 13 = x13 at *
      clear hB2
      clear us
      go_upto_region 13 with fail
      refine with_act fun a0 ha0 => ?_
      have hl : rfT.length = a0.tmps.size := by rw [ha0]; rfl
      have k1 : a0.tmps[1]?.getD undef = .pointer (some ⟨w.heap.size, 0, none⟩) := by rw [ha0]; rfl
      have k4 : a0.tmps[4]?.getD undef = .slice AK 0 cK := by rw [ha0]; rfl
      have k7 : a0.tmps[7]?.getD undef = vv := by rw [ha0]; rfl
      refine wp_region_che (by kernel_rfl) rfT (by kernel_rfl) (by kernel_rfl) hl (fun i => if i = 6 then a0.tmps[2]?.getD undef else if i = 7 then .int .i64 0 else undef) (by rw [ha0]; rfl) (0) (Below B) [2, 5, 6] (by kernel_rfl) (by decide) (by decide) (fun w' => Below B w5 w' ∧ B ≤ w'.heap.size) (rfV w.heap.size B vv AK 0 cK A n c) (rfR B vv X40 (X40 ++ []) X NN) (Nat.zero_le _) ⟨HG5.out.1.trans (Below.refl _ _).drew, HG5.out.2⟩ ⟨HG5.out.2, HO5.out.keep fun _ _ _ => rfl⟩ (fun w1 w2 hb hd h => by rcases hd with hd | hd; exact ⟨h.1.trans (hd.mono h.2), Nat.le_trans h.2 hd.size⟩; exact ⟨h.1.trans hd, Nat.le_trans h.2 hd.size⟩) (fun i v w w' _ hd h => rfV.keep _ _ _ _ _ _ _ _ _ i v w w' hd h) (fun k us us' w w' h _ hb hR => rfR.keep _ _ _ _ _ _ k us us' w w' h hb hR) ⟨?_, ?_, ?_, ?_, ?_, ?_, ?_, ?_, trivial⟩ ?_
      · refine stepE_val [] (by kernel_rfl) (by decide) (by decide) rfl fun us w' hB hG hV => ?_
        have o7 := (frame_old2 (us := us) (a := a0) (show (rfT[7]?).join = none from rfl)).trans k7
        generalize frame rfT a0 us = fr at *
        exact val_C (v := vv) (w' := w') (by go_simp) (Below.refl _ _) rfl
      · refine stepE_val [] (by kernel_rfl) (by decide) (by decide) rfl fun us w' hB hG hV => ?_
        have o4 := (frame_old2 (us := us) (a := a0) (show (rfT[4]?).join = none from rfl)).trans k4
        generalize frame rfT a0 us = fr at *
        exact val_C (v := .slice AK 0 cK) (w' := w') (by go_simp) (Below.refl _ _) rfl
      · refine stepE_chain 0 rfl (by decide) [0, 1] (by kernel_rfl) (by decide) rfl fun us w' hB hG hV hR => ?_
        have e0 : us 0 = vv := hV 0 (by simp)
        have v0 := (frame_at2 (us := us) hl (show (rfT[58]?).join = some 0 from rfl)).trans e0
        have e1 : us 1 = .slice AK 0 cK := hV 1 (by simp)
        have v1 := (frame_at2 (us := us) hl (show (rfT[59]?).join = some 1 from rfl)).trans e1
        generalize frame rfT a0 us = fr at *
        exact append_Jo (R := fun v w'' => (Below B w' w'' ∧ Below 0 w' w'') ∧ rfR B vv X40 (X40 ++ []) X NN 1 (upd us 2 v) w'') (.tmp 58) (.tmp 59) 26 rfl 5 i0 _ 1 Try.underlying26 T1'.out T2.out T3.out T4.out rfl B _ X40 (eval_tmp v0) hR.2 w'.heap.size _ 0 cK [] (eval_tmp v1) (PK.out w' hG) (by rw [LX40.out]; unfold maxLen; have := NK.out; omega) (by rw [LX40.out]; have := NK.out; omega) hR.1 (40 + 0) (by rw [LX40.out]) fun A' c' w'' _ _ O' B' => ⟨belowB B', Nat.le_trans hR.1 B'.size, by rw [upd_same]; exact O'⟩
      · refine stepE_val [] (by kernel_rfl) (by decide) (by decide) rfl fun us w' hB hG hV => ?_
        have o1 := (frame_old2 (us := us) (a := a0) (show (rfT[1]?).join = none from rfl)).trans k1
        generalize frame rfT a0 us = fr at *
        exact val_C (v := .pointer (some ⟨w.heap.size, 40, none⟩)) (w' := w') (by go_simp) (Below.refl _ _) rfl
      · refine stepE_val [3] (by kernel_rfl) (by decide) (by decide) rfl fun us w' hB hG hV => ?_
        have e3 : us 3 = .pointer (some ⟨w.heap.size, 40, none⟩) := hV 3 (by simp)
        have v3 := (frame_at2 (us := us) hl (show (rfT[61]?).join = some 3 from rfl)).trans e3
        have hc := K40.out w' hG
        generalize frame rfT a0 us = fr at *
        exact val_C (v := .slice A n c) (w' := w') (by go_simp) (Below.refl _ _) rfl
      · refine stepE_chain 1 rfl (by decide) [4] (by kernel_rfl) (by decide) rfl fun us w' hB hG hV hR => ?_
        have e4 : us 4 = .slice A n c := hV 4 (by simp)
        have v4 := (frame_at2 (us := us) hl (show (rfT[62]?).join = some 4 from rfl)).trans e4
        have vc := frame_at2 (us := us) hl (show (rfT[60]?).join = some 2 from rfl)
        generalize frame rfT a0 us = fr at *
        exact append_Jo (R := fun v w'' => (Below B w' w'' ∧ Below 0 w' w'') ∧ rfR B vv X40 (X40 ++ []) X NN 2 (upd us 5 v) w'') (.tmp 60) (.tmp 62) 26 rfl 5 i0 _ 1 Try.underlying26 T1'.out T2.out T3.out T4.out rfl B _ (X40 ++ []) (eval_tmp vc) hR.2 w'.heap.size _ n c xs (eval_tmp v4) (PX.out w' hG) (by rw [LX48.out]; unfold maxLen; have := NK.out; have := hn9.out; omega) (by rw [LX48.out]; have := NK.out; have := hn9.out; omega) hR.1 NN (by rw [LX48.out, ENN.out]) fun A' c' w'' _ _ O' B' => ⟨belowB B', Nat.le_trans hR.1 B'.size, by rw [upd_same]; exact EXX.out ▸ O', A', c', upd_same _ _ _⟩
      · refine stepE_chain 2 rfl (by decide) [] (by kernel_rfl) (by decide) rfl fun us w' hB hG hV hR => ?_
        have vc := frame_at2 (us := us) hl (show (rfT[63]?).join = some 5 from rfl)
        generalize frame rfT a0 us = fr at *
        exact val_J (R := fun v w'' => (Below B w' w'' ∧ Below 0 w' w'') ∧ rfR B vv X40 (X40 ++ []) X NN 3 (upd us 6 v) w'') (v := us 5) (w' := w') (by go_simp) ⟨belowB (Below.refl _ _), hR.1, by rw [upd_same]; exact hR.2.1, by rw [upd_same]; exact hR.2.2⟩
      · refine stepE_val [] (by kernel_rfl) (by decide) (by decide) rfl fun us w' hB hG hV => ?_
        generalize frame rfT a0 us = fr at *
        exact val_C (v := .int .i64 0) (w' := w') (by go_simp) (Below.refl _ _) rfl
      · intro us w8 hB2 hG hV hR
        have e7 : us 7 = .int .i64 0 := hV 7 (by decide) (by decide)
        obtain ⟨_, hO, AX, cX, e6⟩ : B ≤ w8.heap.size ∧ Own .u8 5 w8 B (us 6) X ∧ ∃ A c, us 6 = .slice A NN c := hR
        rw [e6] at hO
        have HO8 := Lib.hid hO
        have HG8 := Lib.hid hG.1
        subst ha0
        simp only [frame, rfT, fill]
        rw [e6, e7]
        clear hV hG hl k1 k4 k7 e6 e7 hO
        go_wp2_with fail
        go_ret2
        exact ⟨AX, NN, cX, rfl, HO8.out.less LWB.out, BW5.out.trans (HG8.out.mono LWB.out)⟩
end Go.Proofs.Ytbhcpbihbecphaa.sxC
