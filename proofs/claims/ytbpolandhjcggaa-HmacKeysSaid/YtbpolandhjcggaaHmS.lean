/-
  The walk of the third statement.
-/
import Derived.Test.YtbpolandhjcggaaHmQ
namespace Go.Proofs.Ytbpolandhjcggaa.hmC
open Go.ChangeShapes Go.WideShapes Go.ChangeAt Go.RowKit
open Go.Proofs.Ytbpolandhjcggaa.memC Go.Proofs.Ytbpolandhjcggaa.genC Go.Proofs.Ytbpolandhjcggaa.shaM Go.Proofs.Ytbpolandhjcggaa.shaC Go.Proofs.Ytbpolandhjcggaa.shaN Go.Proofs.Ytbpolandhjcggaa.butC Go.Proofs.Ytbpolandhjcggaa.hmM Go.Proofs.Ytbpolandhjcggaa.freeC Go.Proofs.Ytbpolandhjcggaa.partsC
set_option linter.unusedVariables false
/-- a key, with up to j zeros behind: never more than 64 with them -/
def padK (k : List Int) (j : Nat) : List Int := k ++ nz (min j (64 - k.length))
theorem padK_len (k : List Int) (j : Nat) : (padK k j).length = k.length + min j (64 - k.length) := by unfold padK nz; rw [List.length_append, List.length_replicate]
theorem padK_zero (k : List Int) : padK k 0 = k := by unfold padK nz; simp
theorem padK_more {k : List Int} {j : Nat} (h : (padK k j).length < 64) : padK k j ++ [0] = padK k (j + 1) := by
  rw [padK_len] at h
  unfold padK nz
  rw [List.append_assoc, show min (j + 1) (64 - k.length) = min j (64 - k.length) + 1 by omega, List.replicate_succ']
theorem padK_same {k : List Int} {j : Nat} (h : ¬ (padK k j).length < 64) : padK k j = padK k (j + 1) := by
  rw [padK_len] at h
  unfold padK
  rw [show min (j + 1) (64 - k.length) = min j (64 - k.length) by omega]
theorem padK_byte {k : List Int} {j : Nat} (h : ∀ x ∈ k, Byte x) : ∀ x ∈ padK k j, Byte x := fun x hx => (List.mem_append.1 hx).elim (h x) (nz_byte _ x)
theorem padK_blk (k : List Int) (j : Nat) : blkL (padK k j) = blkL k := by
  have hl := padK_len k j
  rcases Nat.lt_or_ge 64 k.length with h | h
  · have e : padK k j = k := by unfold padK nz; rw [show min j (64 - k.length) = 0 by omega]; simp
    rw [e]
  · have e1 : keyL (padK k j) = padK k j := by unfold keyL; rw [if_neg (by omega)]
    have e2 : keyL k = k := by unfold keyL; rw [if_neg (by omega)]
    unfold blkL
    rw [e1, e2, hl]
    unfold padK nz
    rw [List.append_assoc, List.replicate_append_replicate, show min j (64 - k.length) + (64 - (k.length + min j (64 - k.length))) = 64 - k.length by omega]
theorem blk_64 {b : List Int} (h : b.length = 64) : blkL b = b := by
  have e : keyL b = b := by unfold keyL; rw [if_neg (by omega)]
  unfold blkL
  rw [e, h]
  simp [nz]
theorem blk_blk (k : List Int) : blkL (blkL k) = blkL k := blk_64 (blk_len k)
theorem mac_blk {a b : List Int} (h : blkL a = blkL b) (msg : List Int) : macL a msg = macL b msg := by
  unfold macL inL turnL
  rw [h]
/-- what was there stands -/
def Gr (w0 w : World) : Prop := Below w0.heap.size w0 w
theorem Gr.alloc {w0 w : World} (h : Gr w0 w) (o : Obj) : Gr w0 (w.alloc o) := Below.alloc h (Below.size h) o
theorem Gr.below {w0 w w' : World} (h : Gr w0 w) (b : Below w.heap.size w w') : Gr w0 w' := Below.trans h (b.mono (Below.size h))
theorem hmackeys_long (A : Option Addr) (n c : Nat) (A2 : Option Addr) (n2 c2 : Nat) (z : Nat) (w : World) (hn : n ≤ 9223372036854775807) (hn2 : n2 ≤ 9223372036854775807) (h : 1000 < n ∨ 1000 < n2) : Calls Try.prog 5 #[.slice A n c, .slice A2 n2 c2, .int .u8 (z : Int)] w (AliveRet w) := by
  by_cases h1 : 1000 < n
  · have d1 : decide (1000 < n) = true := by simpa using h1
    clear h h1
    go_enter Try.func5, Try.ntmps5
    go_wp2_with (first
      | (go_at_call 7; (with_reducible refine (long_any A _ _ _ hn).mono ?_); rintro e w' ⟨rfl, rfl⟩)
      | (go_at_call 8; refine (alive_any _).mono ?_; rintro e w' ⟨rfl, B⟩))
    go_ret
    exact ⟨rfl, B⟩
  · have d1 : decide (1000 < n) = false := by simpa using h1
    have d2 : decide (1000 < n2) = true := by simp; omega
    clear h h1
    go_enter Try.func5, Try.ntmps5
    go_wp2_with (first
      | (go_at_call 7; (with_reducible refine (long_any A n c _ hn).mono ?_); rintro e w' ⟨rfl, rfl⟩)
      | (go_at_call 7; (with_reducible refine (long_any A2 n2 c2 _ hn2).mono ?_); rintro e w' ⟨rfl, rfl⟩)
      | (go_at_call 8; refine (alive_any _).mono ?_; rintro e w' ⟨rfl, B⟩))
    go_ret
    exact ⟨rfl, B⟩
def KV (gb : Nat) (A2 : Option Addr) (n2 c2 : Nat) (msg : List Int) (A4 : Option Addr) (L c4 : Nat) (X V : Array Value) : Nat → Value → World → Prop
  | 0, v, _ => v = .slice (some ⟨gb, 0, none⟩) 64 64
  | 1, v, _ => v = .slice A2 n2 c2
  | 2, v, w => ∃ g, v = .slice (some ⟨g, 0, none⟩) 1 1 ∧ Parts w w.heap.size (some ⟨g, 0, none⟩) [⟨A2, n2, c2, msg⟩]
  | 3, v, _ => v = .agg X
  | 4, v, _ => v = .agg X
  | 5, v, _ => v = .bool true
  | 6, v, _ => v = .bool true
  | 7, v, _ => v = .slice A4 L c4
  | 8, v, _ => v = .slice A2 n2 c2
  | 9, v, w => ∃ g, v = .slice (some ⟨g, 0, none⟩) 1 1 ∧ Parts w w.heap.size (some ⟨g, 0, none⟩) [⟨A2, n2, c2, msg⟩]
  | 10, v, _ => v = .agg X
  | 11, v, _ => v = .agg X
  | 12, v, _ => v = .bool true
  | 13, v, _ => v = .bool true
  | 14, v, _ => v = .bool true
  | 15, v, _ => v = .slice A4 L c4
  | 16, v, _ => v = .agg V
  | 17, v, _ => v = .agg V
  | 18, v, _ => v = .bool true
  | 19, v, _ => v = .bool true
  | 20, v, _ => v = .bool true
  | 21, v, _ => v = .bool true
  | 22, v, _ => v = .bool true
  | 23, v, _ => v = .bool true
  | _, _, _ => True
theorem KV.keep (gb : Nat) (A2 : Option Addr) (n2 c2 : Nat) (msg : List Int) (A4 : Option Addr) (L c4 : Nat) (X V : Array Value) (i : Nat) (v : Value) (w w' : World) (hb : Below w.heap.size w w') (h : KV gb A2 n2 c2 msg A4 L c4 X V i v w) :
    KV gb A2 n2 c2 msg A4 L c4 X V i v w' := by
  by_cases e : i = 2 ∨ i = 9
  · rcases e with rfl | rfl
    · obtain ⟨g, e1, h1⟩ := h
      exact ⟨g, e1, h1.below hb hb.size⟩
    · obtain ⟨g, e1, h1⟩ := h
      exact ⟨g, e1, h1.below hb hb.size⟩
  · unfold KV at h ⊢
    split at h <;> first | exact h | exact absurd (Or.inl rfl) e | exact absurd (Or.inr rfl) e
def tabK : List (Option Nat) := [none, none, none, none, none, none, some 23, none, none, none, none, none, none, none, none, none, none, none, none, none, none, none, none, none, none, none, none, none, none, none, none, none, none, none, none, some 0, some 1, some 2, some 3, some 4, some 5, some 6, some 7, some 8, some 9, some 10, some 11, some 12, some 13, some 14, some 15, some 16, some 17, some 18, some 19, some 20, some 21, some 22]
set_option maxRecDepth 100000 in
set_option maxHeartbeats 1000000 in
theorem hmackeys_short (A : Option Addr) (n c : Nat) (k : List Int) (A2 : Option Addr) (n2 c2 : Nat) (msg : List Int) (z : Nat) (w : World) (hk : Key w A n c k) (hm : Key w A2 n2 c2 msg) (h : n ≤ 1000) (h2 : n2 ≤ 1000) (hz : z ≤ 255) :
    Calls Try.prog 5 #[.slice A n c, .slice A2 n2 c2, .int .u8 (z : Int)] w (AliveRet w) := by
  obtain ⟨i0, hi0, hz0, hz1, hz2⟩ := info_parts byte_info
  have T1 := Lib.hid hi0; have T2 := Lib.hid hz0; have T3 := Lib.hid hz1; have T4 := Lib.hid hz2
  have d1 : decide (1000 < n) = false := by simpa using h
  have d2 : decide (1000 < n2) = false := by simpa using h2
  obtain ⟨Z6, hZ6⟩ : ∃ Z, Z = ((nz 64).map (Value.int .u8)).toArray := ⟨_, rfl⟩
  have hzv6 := z64
  rw [← hZ6] at hzv6
  obtain ⟨V, hV⟩ : ∃ V, V = vecA (blkL k) := ⟨_, rfl⟩
  have UV := Lib.hid (show (Try.prog.info? 31).map (·.size) = some V.size by rw [b64_info, hV]; simp [vecA, blk_len])
  have ZV := Lib.hid (show Z6.size = V.size by rw [hZ6, hV]; simp [nz, vecA, blk_len])
  have OV := Lib.hid (show V.all (·.oneCell') = true by rw [hV]; exact nums_one _)
  have B1 := Lib.hid ((block_any A n c k w hk.nums hk.byte (by omega) hk.cap hk.max).mono fun e w'' h => (show e = .returned (.agg V) ∧ Below w.heap.size w w'' from ⟨by rw [hV]; exact h.1, h.2⟩))
  have HK := Lib.hid hk
  have HM := Lib.hid hm
  have HV := Lib.hid hV
  have HKL := Lib.hid hk.nums.len
  have hn : n ≤ 9223372036854775807 := by omega
  have hn2 : n2 ≤ 9223372036854775807 := by omega
  clear hk hm hV hZ6 hi0 hz0 hz1 hz2
  go_enter Try.func5, Try.ntmps5
  go_upto_region 3 with (first
    | (go_at_call 7; (with_reducible refine (long_any A n c _ hn).mono ?_); rintro e w' ⟨rfl, rfl⟩)
    | (go_at_call 7; (with_reducible refine (long_any A2 n2 c2 _ hn2).mono ?_); rintro e w' ⟨rfl, rfl⟩))
  go_upto_region 4 with (first
    | (go_at_call 13; (with_reducible refine B1.out.mono ?_); rintro e w1 ⟨rfl, D1⟩)
    | (refine wpList_store_row rfl 31 (.tmp 7) (.tmp 18) rfl w1.heap.size V rfl rfl _ _ (heap_alloc_new _ _) UV.out ZV.out OV.out ?_))
  rw [World.setRow_alloc_new]
  have GB : (w1.alloc (.cells V 31)).heap[w1.heap.size]? = some (.cells V 31 (0, 0)) := heap_alloc_new _ _
  have BW : Below w.heap.size w (w1.alloc (.cells V 31)) := D1.alloc D1.size _
  generalize w1.alloc (.cells V 31) = W at *
  generalize w1.heap.size = gb at *
  have HGB := Lib.hid GB
  have HBW := Lib.hid BW
  have NK := Lib.hid (HK.out.below BW).nums
  have LB := Lib.hid (Array.getElem?_eq_some_iff.1 GB).1
  clear GB BW D1 hzv6 d1 d2
  go_upto_region 5 with (first
    | (at_builtin; (refine wpList_appT _ rfl (.const (.slice none 0 0)) (.tmp 19) _ rfl 5 i0 _ 1 Try.underlying22 T1.out T2.out T3.out T4.out rfl W.heap.size _ _ rfl (Own.nil _ _) W.heap.size A n c k rfl NK.out (by simp only [List.length_nil, maxLen]; omega) (by simp only [List.length_nil]; omega) (Nat.le_refl _) n (by simp) ?_)
       intro A3 c3 w3 g3 g3' O3 B3))
  have R0 : AllR W (padK k 0) (.slice A3 n c3) w3 := ⟨A3, c3, n, rfl, by rw [padK_zero]; exact HKL.out, g3, g3', by rw [padK_zero]; exact O3, B3⟩
  have HR0 := Lib.hid R0
  clear R0 O3 B3 g3 g3'
  go_wp2_with fail
  go_loopw [8, 22] (fun v i wr => ∃ j : Nat, j ≤ z ∧ i = .int .u8 j ∧ AllR W (padK k j) v wr) (fun _ i _ => z - (intOf i).toNat)
  case atStart => exact ⟨0, Nat.zero_le _, rfl, HR0.out⟩
  case round =>
    obtain ⟨j, hj, rfl, A4, c4, L, rfl, hlen, g4, g4', O4, B4⟩ := hrel
    have HLen := Lib.hid hlen
    have hL : L ≤ 1064 := by rw [← hlen, padK_len, HKL.out]; omega
    clear hlen
    by_cases hlt : j < z
    · have hjz : (j : Int) < (z : Int) := by omega
      have hjj : IntKind.u8.wrap ((j : Int) + 1) = (j : Int) + 1 := IntWalk.u8_in _ (by omega)
      by_cases h64 : L < 64
      · have h64z : (L : Int) < 64 := by omega
        have hm := Lib.hid (padK_more (k := k) (j := j) (by rw [HLen.out]; exact h64))
        go_wp2_with (first
          | (at_builtin; (refine wpList_app1T _ rfl (.tmp 27) (.tmp 28) _ rfl 5 i0 _ 1 Try.underlying22 T1.out T2.out T3.out T4.out rfl W.heap.size _ _ rfl O4 _ rfl (by rw [HLen.out]; simp only [maxLen]; omega) (by rw [HLen.out]; omega) B4.size (L + 1) (by rw [HLen.out]) ?_)
             intro A5 c5 w5 g5 g5' O5 B5
             have P5 := Lib.hid (show AllR W (padK k (j + 1)) (.slice A5 (L + 1) c5) w5 by
               rw [← hm.out]
               exact ⟨A5, c5, L + 1, rfl, by rw [List.length_append, HLen.out]; rfl, g5, g5', O5, B4.trans B5⟩)
             clear O5 B5 g5 g5'))
        go_roundw
        case rel => exact ⟨j + 1, by omega, by go_num, P5.out⟩
        case measure => simp [intOf]; omega
      · have h64z : ¬ (L : Int) < 64 := by omega
        have hm := padK_same (k := k) (j := j) (by rw [HLen.out]; exact h64)
        have P5 := Lib.hid (show AllR W (padK k (j + 1)) (.slice A4 L c4) wr from ⟨A4, c4, L, rfl, by rw [← hm]; exact HLen.out, g4, g4', by rw [← hm]; exact O4, B4⟩)
        clear hm O4
        go_wp2_with fail
        go_roundw
        case rel => exact ⟨j + 1, by omega, by go_num, P5.out⟩
        case measure => simp [intOf]; omega
    · have e : j = z := by omega
      subst e
      have hjz : ¬ (j : Int) < (j : Int) := by omega
      obtain ⟨X, hX⟩ : ∃ X, X = vecA (macL k msg) := ⟨_, rfl⟩
      obtain ⟨Z2, hZ2⟩ : ∃ Z, Z = ((nz 20).map (Value.int .u8)).toArray := ⟨_, rfl⟩
      have hzv2 := z20
      rw [← hZ2] at hzv2
      have UX := Lib.hid (show (Try.prog.info? 25).map (·.size) = some X.size by rw [digest_info, hX]; simp [vecA, mac_len])
      have ZX := Lib.hid (show Z2.size = X.size by rw [hZ2, hX]; simp [nz, vecA, mac_len])
      have OX := Lib.hid (show X.all (·.oneCell') = true by rw [hX]; exact nums_one _)
      have b0 : Below w.heap.size w wr := HBW.out.trans (B4.mono HBW.out.size)
      have O1 := Lib.hid ((mac1 (HK.out.below b0) (HM.out.below b0) (by omega) (by omega)).mono fun e w'' h => (show e = .returned (.agg X) ∧ Below wr.heap.size wr w'' from ⟨by rw [hX]; exact h.1, h.2⟩))
      have HB0 := Lib.hid b0
      have HO4 := Lib.hid O4
      have HB4 := Lib.hid B4
      have HX := Lib.hid hX
      clear hX hZ2 b0 O4 B4 hlt hj
      go_upto_region 11 with (first
        | (go_at_call 9; (with_reducible refine O1.out.mono ?_); rintro e w5 ⟨rfl, B5⟩)
        | (refine wpList_store_row rfl 25 (.tmp 9) (.tmp 34) rfl w5.heap.size X rfl rfl _ _ (heap_alloc_new _ _) UX.out ZX.out OX.out ?_))
      rw [World.setRow_alloc_new]
      have G5 : (w5.alloc (.cells X 25)).heap[w5.heap.size]? = some (.cells X 25 (0, 0)) := heap_alloc_new _ _
      have B6 : Below wr.heap.size wr (w5.alloc (.cells X 25)) := B5.alloc B5.size _
      generalize w5.alloc (.cells X 25) = w6 at *
      generalize w5.heap.size = gd at *
      have l1 := LB.out
      have l2 := HB4.out.size
      have l3 := B6.size
      have BF : Below w.heap.size w w6 := HB0.out.trans (B6.mono HB0.out.size)
      have G6 : w6.heap[gb]? = some (.cells V 31 (0, 0)) := ((B6.block gb (by omega)).trans (HB4.out.block gb l1)).trans HGB.out
      have O6 := HO4.out.below B6
      have hT := padK_blk k j
      have RD := Lib.hid (fun (w' : World) (B : Gr w6 w') => (show w'.heap[gd]? = some (.cells X 25 (0, 0)) from (Below.block B gd (Array.getElem?_eq_some_iff.1 G5).1).trans G5))
      have RB := Lib.hid (fun (w' : World) (B : Gr w6 w') => (show w'.heap[gb]? = some (.cells V 31 (0, 0)) from (Below.block B gb (Array.getElem?_eq_some_iff.1 G6).1).trans G6))
      have PM := Lib.hid (fun (w' : World) (B : Gr w6 w') => (show PartAt w' w'.heap.size ⟨A2, n2, c2, msg⟩ from ((HM.out.below BF).below B).partAt (by omega)))
      have KM : ∀ (w' : World), Gr w6 w' → Key w' A4 L c4 (padK k j) := fun w' B => ⟨(Own.below O6 B).nums, padK_byte HK.out.byte, g4, by simp only [maxLen] at g4'; omega⟩
      have KB : ∀ (w' : World), Gr w6 w' → Key w' (some ⟨gb, 0, none⟩) 64 64 (blkL k) := fun w' B => ⟨(show Arr .u8 31 w' gb (blkL k) from ⟨by rw [RB.out w' B, HV.out]; rfl⟩).part (blk_len k), blk_byte HK.out.byte, Nat.le_refl _, by decide⟩
      have OA := Lib.hid (fun (w' : World) (g : Nat) (B : Gr w6 w') (hP : Parts w' w'.heap.size (some ⟨g, 0, none⟩) [⟨A2, n2, c2, msg⟩]) => (cof_any (some ⟨gb, 0, none⟩) 64 64 (blkL k) (some ⟨g, 0, none⟩) 1 1 _ w' (KB w' B).nums (KB w' B).byte (by decide) (by decide) (by decide) hP rfl (by decide)).mono fun e w'' h =>
        (show e = .returned (.agg X) ∧ Below w'.heap.size w' w'' from ⟨by have := h.1; rw [cat1, mac_blk (blk_blk k)] at this; rw [HX.out]; exact this, h.2⟩))
      have OB := Lib.hid (fun (w' : World) (g : Nat) (B : Gr w6 w') (hP : Parts w' w'.heap.size (some ⟨g, 0, none⟩) [⟨A2, n2, c2, msg⟩]) => (cof_any A4 L c4 (padK k j) (some ⟨g, 0, none⟩) 1 1 _ w' (KM w' B).nums (KM w' B).byte (by omega) (KM w' B).cap (KM w' B).max hP rfl (by decide)).mono fun e w'' h =>
        (show e = .returned (.agg X) ∧ Below w'.heap.size w' w'' from ⟨by have := h.1; rw [cat1, mac_blk hT] at this; rw [HX.out]; exact this, h.2⟩))
      have BK := Lib.hid (fun (w' : World) (B : Gr w6 w') => (block_any A4 L c4 (padK k j) w' (KM w' B).nums (KM w' B).byte (by omega) (KM w' B).cap (KM w' B).max).mono fun e w'' h =>
        (show e = .returned (.agg V) ∧ Below w'.heap.size w' w'' from ⟨by have := h.1; rw [hT] at this; rw [HV.out]; exact this, h.2⟩))
      have hg1 := guard20
      have hg3 := guard64
      have he1 : ∀ w', (Op.equalIn 10000 25 (.agg X) (.agg X)).run Try.prog w' = .ok true w' := fun w' => by rw [HX.out]; exact eq20 (mac_len k msg) w'
      have he3 : ∀ w', (Op.equalIn 10000 31 (.agg V) (.agg V)).run Try.prog w' = .ok true w' := fun w' => by rw [HV.out]; exact eq64 (blk_len k) w'
      have HBF := Lib.hid BF
      have G0 := Lib.hid (show Gr w6 w6.drew from (Below.refl _ _).drew)
      clear KM KB BF O6 G5 G6 B6 l1 l2 l3 hT hzv2 B5
      refine with_act fun a0 ha0 => ?_
      have hl : tabK.length = a0.tmps.size := by rw [ha0]; rfl
      have k1 : a0.tmps[1]?.getD undef = .slice A2 n2 c2 := by rw [ha0]; rfl
      have k7 : a0.tmps[7]?.getD undef = .pointer (some ⟨gb, 0, none⟩) := by rw [ha0]; rfl
      have k8 : a0.tmps[8]?.getD undef = .slice A4 L c4 := by rw [ha0]; rfl
      have k9 : a0.tmps[9]?.getD undef = .pointer (some ⟨gd, 0, none⟩) := by rw [ha0]; rfl
      refine wp_region_vals (by kernel_rfl) tabK (by kernel_rfl) (by kernel_rfl) hl (fun i => if i = 23 then .bool false else undef) (by rw [ha0]; rfl) (Gr w6) (KV gb A2 n2 c2 msg A4 L c4 X V) G0.out (KV.keep gb A2 n2 c2 msg A4 L c4 X V) ⟨?_, ?_, ?_, ?_, ?_, ?_, ?_, ?_, ?_, ?_, ?_, ?_, ?_, ?_, ?_, ?_, ?_, ?_, ?_, ?_, ?_, ?_, ?_, ?_, trivial⟩ ?_
      · refine step_plain [] (by kernel_rfl) rfl fun us w' hG hV => ?_
        have o7 := (frame_old2 (us := us) (a := a0) (show (tabK[7]?).join = none from rfl)).trans k7
        generalize frame tabK a0 us = fr at *
        exact val_ok (v := .slice (some ⟨gb, 0, none⟩) 64 64) (w' := w') (by go_simp) hG (Below.refl _ _) rfl
      · refine step_plain [] (by kernel_rfl) rfl fun us w' hG hV => ?_
        have o1 := (frame_old2 (us := us) (a := a0) (show (tabK[1]?).join = none from rfl)).trans k1
        generalize frame tabK a0 us = fr at *
        exact val_ok (v := .slice A2 n2 c2) (w' := w') (by go_simp) hG (Below.refl _ _) rfl
      · refine step_plain [1] (by kernel_rfl) rfl fun us w' hG hV => ?_
        have e1 : us 1 = .slice A2 n2 c2 := hV 1 (by simp)
        have v1 := (frame_at2 (us := us) hl (show (tabK[36]?).join = some 1 from rfl)).trans e1
        generalize frame tabK a0 us = fr at *
        exact val_ok (v := .slice (some ⟨w'.heap.size, 0, none⟩) 1 1) (w' := w'.alloc (.cells #[.slice A2 n2 c2] 22)) (by go_simp) (hG.alloc _) (alloc_below _ _) ⟨_, rfl, parts1 (PM.out w' hG) _⟩
      · refine step_plain [0, 2] (by kernel_rfl) rfl fun us w' hG hV => ?_
        have e0 : us 0 = .slice (some ⟨gb, 0, none⟩) 64 64 := hV 0 (by simp)
        have v0 := (frame_at2 (us := us) hl (show (tabK[35]?).join = some 0 from rfl)).trans e0
        obtain ⟨g, e2, hP⟩ : ∃ g, us 2 = .slice (some ⟨g, 0, none⟩) 1 1 ∧ Parts w' w'.heap.size (some ⟨g, 0, none⟩) [⟨A2, n2, c2, msg⟩] := hV 2 (by simp)
        have v2 := (frame_at2 (us := us) hl (show (tabK[37]?).join = some 2 from rfl)).trans e2
        generalize frame tabK a0 us = fr at *
        exact call_ok (f := 9) (args := #[.slice (some ⟨gb, 0, none⟩) 64 64, .slice (some ⟨g, 0, none⟩) 1 1]) (by go_simp) ((OA.out w' g hG hP).mono fun e w'' h => ⟨_, h.1, hG.below h.2, h.2, rfl⟩)
      · refine step_plain [] (by kernel_rfl) rfl fun us w' hG hV => ?_
        have o9 := (frame_old2 (us := us) (a := a0) (show (tabK[9]?).join = none from rfl)).trans k9
        generalize frame tabK a0 us = fr at *
        exact load_ok 25 9 rfl gd o9 _ _ (0, 0) _ (RD.out w' hG) Try.underlying25 rfl UX.out hG rfl
      · refine step_plain [3, 4] (by kernel_rfl) rfl fun us w' hG hV => ?_
        have e3 : us 3 = .agg X := hV 3 (by simp)
        have v3 := (frame_at2 (us := us) hl (show (tabK[38]?).join = some 3 from rfl)).trans e3
        have e4 : us 4 = .agg X := hV 4 (by simp)
        have v4 := (frame_at2 (us := us) hl (show (tabK[39]?).join = some 4 from rfl)).trans e4
        generalize frame tabK a0 us = fr at *
        exact val_ok (v := .bool true) (w' := w') (by go_simp) hG (Below.refl _ _) rfl
      · refine step_plain [5] (by kernel_rfl) rfl fun us w' hG hV => ?_
        have e5 : us 5 = .bool true := hV 5 (by simp)
        have v5 := (frame_at2 (us := us) hl (show (tabK[40]?).join = some 5 from rfl)).trans e5
        generalize frame tabK a0 us = fr at *
        exact val_ok (v := .bool true) (w' := w') (by go_simp) hG (Below.refl _ _) rfl
      · refine step_guard [6] (by kernel_rfl) (j := 6) (t := 41) (b := true) rfl (by simp) rfl hl rfl (fun v w h => h) fun us w' hG hV => ?_
        have e6 : us 6 = .bool true := hV 6 (by simp)
        have v6 := (frame_at2 (us := us) hl (show (tabK[41]?).join = some 6 from rfl)).trans e6
        have o8 := (frame_old2 (us := us) (a := a0) (show (tabK[8]?).join = none from rfl)).trans k8
        generalize frame tabK a0 us = fr at *
        exact val_ok (v := .slice A4 L c4) (w' := w') (by go_simp) hG (Below.refl _ _) rfl
      · refine step_guard [6] (by kernel_rfl) (j := 6) (t := 41) (b := true) rfl (by simp) rfl hl rfl (fun v w h => h) fun us w' hG hV => ?_
        have e6 : us 6 = .bool true := hV 6 (by simp)
        have v6 := (frame_at2 (us := us) hl (show (tabK[41]?).join = some 6 from rfl)).trans e6
        have o1 := (frame_old2 (us := us) (a := a0) (show (tabK[1]?).join = none from rfl)).trans k1
        generalize frame tabK a0 us = fr at *
        exact val_ok (v := .slice A2 n2 c2) (w' := w') (by go_simp) hG (Below.refl _ _) rfl
      · refine step_guard [6, 8] (by kernel_rfl) (j := 6) (t := 41) (b := true) rfl (by simp) rfl hl rfl (fun v w h => h) fun us w' hG hV => ?_
        have e6 : us 6 = .bool true := hV 6 (by simp)
        have v6 := (frame_at2 (us := us) hl (show (tabK[41]?).join = some 6 from rfl)).trans e6
        have e8 : us 8 = .slice A2 n2 c2 := hV 8 (by simp)
        have v8 := (frame_at2 (us := us) hl (show (tabK[43]?).join = some 8 from rfl)).trans e8
        generalize frame tabK a0 us = fr at *
        exact val_ok (v := .slice (some ⟨w'.heap.size, 0, none⟩) 1 1) (w' := w'.alloc (.cells #[.slice A2 n2 c2] 22)) (by go_simp) (hG.alloc _) (alloc_below _ _) ⟨_, rfl, parts1 (PM.out w' hG) _⟩
      · refine step_guard [6, 7, 9] (by kernel_rfl) (j := 6) (t := 41) (b := true) rfl (by simp) rfl hl rfl (fun v w h => h) fun us w' hG hV => ?_
        have e6 : us 6 = .bool true := hV 6 (by simp)
        have v6 := (frame_at2 (us := us) hl (show (tabK[41]?).join = some 6 from rfl)).trans e6
        have e7 : us 7 = .slice A4 L c4 := hV 7 (by simp)
        have v7 := (frame_at2 (us := us) hl (show (tabK[42]?).join = some 7 from rfl)).trans e7
        obtain ⟨g, e9, hP⟩ : ∃ g, us 9 = .slice (some ⟨g, 0, none⟩) 1 1 ∧ Parts w' w'.heap.size (some ⟨g, 0, none⟩) [⟨A2, n2, c2, msg⟩] := hV 9 (by simp)
        have v9 := (frame_at2 (us := us) hl (show (tabK[44]?).join = some 9 from rfl)).trans e9
        generalize frame tabK a0 us = fr at *
        exact call_ok (f := 9) (args := #[.slice A4 L c4, .slice (some ⟨g, 0, none⟩) 1 1]) (by go_simp) ((OB.out w' g hG hP).mono fun e w'' h => ⟨_, h.1, hG.below h.2, h.2, rfl⟩)
      · refine step_guard [6] (by kernel_rfl) (j := 6) (t := 41) (b := true) rfl (by simp) rfl hl rfl (fun v w h => h) fun us w' hG hV => ?_
        have e6 : us 6 = .bool true := hV 6 (by simp)
        have v6 := (frame_at2 (us := us) hl (show (tabK[41]?).join = some 6 from rfl)).trans e6
        have o9 := (frame_old2 (us := us) (a := a0) (show (tabK[9]?).join = none from rfl)).trans k9
        generalize frame tabK a0 us = fr at *
        exact load_ok 25 9 rfl gd o9 _ _ (0, 0) _ (RD.out w' hG) Try.underlying25 rfl UX.out hG rfl
      · refine step_guard [6, 10, 11] (by kernel_rfl) (j := 6) (t := 41) (b := true) rfl (by simp) rfl hl rfl (fun v w h => h) fun us w' hG hV => ?_
        have e6 : us 6 = .bool true := hV 6 (by simp)
        have v6 := (frame_at2 (us := us) hl (show (tabK[41]?).join = some 6 from rfl)).trans e6
        have e10 : us 10 = .agg X := hV 10 (by simp)
        have v10 := (frame_at2 (us := us) hl (show (tabK[45]?).join = some 10 from rfl)).trans e10
        have e11 : us 11 = .agg X := hV 11 (by simp)
        have v11 := (frame_at2 (us := us) hl (show (tabK[46]?).join = some 11 from rfl)).trans e11
        generalize frame tabK a0 us = fr at *
        exact val_ok (v := .bool true) (w' := w') (by go_simp) hG (Below.refl _ _) rfl
      · refine step_plain [6, 12] (by kernel_rfl) rfl fun us w' hG hV => ?_
        have e6 : us 6 = .bool true := hV 6 (by simp)
        have v6 := (frame_at2 (us := us) hl (show (tabK[41]?).join = some 6 from rfl)).trans e6
        have e12 : us 12 = .bool true := hV 12 (by simp)
        have v12 := (frame_at2 (us := us) hl (show (tabK[47]?).join = some 12 from rfl)).trans e12
        generalize frame tabK a0 us = fr at *
        exact val_ok (v := .bool true) (w' := w') (by go_simp) hG (Below.refl _ _) rfl
      · refine step_plain [13] (by kernel_rfl) rfl fun us w' hG hV => ?_
        have e13 : us 13 = .bool true := hV 13 (by simp)
        have v13 := (frame_at2 (us := us) hl (show (tabK[48]?).join = some 13 from rfl)).trans e13
        generalize frame tabK a0 us = fr at *
        exact val_ok (v := .bool true) (w' := w') (by go_simp) hG (Below.refl _ _) rfl
      · refine step_guard [14] (by kernel_rfl) (j := 14) (t := 49) (b := true) rfl (by simp) rfl hl rfl (fun v w h => h) fun us w' hG hV => ?_
        have e14 : us 14 = .bool true := hV 14 (by simp)
        have v14 := (frame_at2 (us := us) hl (show (tabK[49]?).join = some 14 from rfl)).trans e14
        have o8 := (frame_old2 (us := us) (a := a0) (show (tabK[8]?).join = none from rfl)).trans k8
        generalize frame tabK a0 us = fr at *
        exact val_ok (v := .slice A4 L c4) (w' := w') (by go_simp) hG (Below.refl _ _) rfl
      · refine step_guard [14, 15] (by kernel_rfl) (j := 14) (t := 49) (b := true) rfl (by simp) rfl hl rfl (fun v w h => h) fun us w' hG hV => ?_
        have e14 : us 14 = .bool true := hV 14 (by simp)
        have v14 := (frame_at2 (us := us) hl (show (tabK[49]?).join = some 14 from rfl)).trans e14
        have e15 : us 15 = .slice A4 L c4 := hV 15 (by simp)
        have v15 := (frame_at2 (us := us) hl (show (tabK[50]?).join = some 15 from rfl)).trans e15
        generalize frame tabK a0 us = fr at *
        exact call_ok (f := 13) (args := #[.slice A4 L c4]) (by go_simp) ((BK.out w' hG).mono fun e w'' h => ⟨_, h.1, hG.below h.2, h.2, rfl⟩)
      · refine step_guard [14] (by kernel_rfl) (j := 14) (t := 49) (b := true) rfl (by simp) rfl hl rfl (fun v w h => h) fun us w' hG hV => ?_
        have e14 : us 14 = .bool true := hV 14 (by simp)
        have v14 := (frame_at2 (us := us) hl (show (tabK[49]?).join = some 14 from rfl)).trans e14
        have o7 := (frame_old2 (us := us) (a := a0) (show (tabK[7]?).join = none from rfl)).trans k7
        generalize frame tabK a0 us = fr at *
        exact load_ok 31 7 rfl gb o7 _ _ (0, 0) _ (RB.out w' hG) Try.underlying31 rfl UV.out hG rfl
      · refine step_guard [14, 16, 17] (by kernel_rfl) (j := 14) (t := 49) (b := true) rfl (by simp) rfl hl rfl (fun v w h => h) fun us w' hG hV => ?_
        have e14 : us 14 = .bool true := hV 14 (by simp)
        have v14 := (frame_at2 (us := us) hl (show (tabK[49]?).join = some 14 from rfl)).trans e14
        have e16 : us 16 = .agg V := hV 16 (by simp)
        have v16 := (frame_at2 (us := us) hl (show (tabK[51]?).join = some 16 from rfl)).trans e16
        have e17 : us 17 = .agg V := hV 17 (by simp)
        have v17 := (frame_at2 (us := us) hl (show (tabK[52]?).join = some 17 from rfl)).trans e17
        generalize frame tabK a0 us = fr at *
        exact val_ok (v := .bool true) (w' := w') (by go_simp) hG (Below.refl _ _) rfl
      · refine step_plain [14, 18] (by kernel_rfl) rfl fun us w' hG hV => ?_
        have e14 : us 14 = .bool true := hV 14 (by simp)
        have v14 := (frame_at2 (us := us) hl (show (tabK[49]?).join = some 14 from rfl)).trans e14
        have e18 : us 18 = .bool true := hV 18 (by simp)
        have v18 := (frame_at2 (us := us) hl (show (tabK[53]?).join = some 18 from rfl)).trans e18
        generalize frame tabK a0 us = fr at *
        exact val_ok (v := .bool true) (w' := w') (by go_simp) hG (Below.refl _ _) rfl
      · refine step_plain [19] (by kernel_rfl) rfl fun us w' hG hV => ?_
        have e19 : us 19 = .bool true := hV 19 (by simp)
        have v19 := (frame_at2 (us := us) hl (show (tabK[54]?).join = some 19 from rfl)).trans e19
        generalize frame tabK a0 us = fr at *
        exact val_ok (v := .bool true) (w' := w') (by go_simp) hG (Below.refl _ _) rfl
      · refine step_guard [20] (by kernel_rfl) (j := 20) (t := 55) (b := true) rfl (by simp) rfl hl rfl (fun v w h => h) fun us w' hG hV => ?_
        have e20 : us 20 = .bool true := hV 20 (by simp)
        have v20 := (frame_at2 (us := us) hl (show (tabK[55]?).join = some 20 from rfl)).trans e20
        generalize frame tabK a0 us = fr at *
        exact call_ok (f := 8) (args := #[]) (by go_simp) ((alive_any w').mono fun e w'' h => ⟨_, h.1, hG.below h.2, h.2, rfl⟩)
      · refine step_plain [20, 21] (by kernel_rfl) rfl fun us w' hG hV => ?_
        have e20 : us 20 = .bool true := hV 20 (by simp)
        have v20 := (frame_at2 (us := us) hl (show (tabK[55]?).join = some 20 from rfl)).trans e20
        have e21 : us 21 = .bool true := hV 21 (by simp)
        have v21 := (frame_at2 (us := us) hl (show (tabK[56]?).join = some 21 from rfl)).trans e21
        generalize frame tabK a0 us = fr at *
        exact val_ok (v := .bool true) (w' := w') (by go_simp) hG (Below.refl _ _) rfl
      · refine step_plain [22] (by kernel_rfl) rfl fun us w' hG hV => ?_
        have e22 : us 22 = .bool true := hV 22 (by simp)
        have v22 := (frame_at2 (us := us) hl (show (tabK[57]?).join = some 22 from rfl)).trans e22
        generalize frame tabK a0 us = fr at *
        exact val_ok (v := .bool true) (w' := w') (by go_simp) hG (Below.refl _ _) rfl
      · intro us w' hG hV
        have e23 : us 23 = .bool true := hV 23 (by decide)
        subst ha0
        simp only [Act.put, frame, tabK, fill]
        rw [e23]
        go_wp2_with fail
        go_ret
        exact ⟨rfl, HBF.out.trans (Below.mono hG HBF.out.size)⟩
theorem hmackeys_walk (A : Option Addr) (n c : Nat) (k : List Int) (A2 : Option Addr) (n2 c2 : Nat) (msg : List Int) (z : Nat) (w : World) (hk : Key w A n c k) (hm : Key w A2 n2 c2 msg) (hz : z ≤ 255) :
    Calls Try.prog 5 #[.slice A n c, .slice A2 n2 c2, .int .u8 (z : Int)] w (AliveRet w) := by
  have h1 := hk.cap
  have h2 := hk.max
  have h3 := hm.cap
  have h4 := hm.max
  by_cases h : 1000 < n ∨ 1000 < n2
  · exact hmackeys_long A n c A2 n2 c2 z w (by omega) (by omega) h
  · exact hmackeys_short A n c k A2 n2 c2 msg z w hk hm (by omega) (by omega) hz
end Go.Proofs.Ytbpolandhjcggaa.hmC
