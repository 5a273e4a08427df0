/-
  1 texts of a proof, joined.
-/
import Derived.Test.YtflfkhcbkhdahaaMg22

/-
  The walk of MktPlays.
-/
namespace Go.Proofs.Ytflfkhcbkhdahaa.mkC
open Go.ChangeShapes Go.WideShapes Go.ChangeAt Go.RowKit
open Go.Proofs.Ytflfkhcbkhdahaa.memC Go.Proofs.Ytflfkhcbkhdahaa.genC Go.Proofs.Ytflfkhcbkhdahaa.butC Go.Proofs.Ytflfkhcbkhdahaa.freeC Go.Proofs.Ytflfkhcbkhdahaa.adC Go.Proofs.Ytflfkhcbkhdahaa.rtC
set_option linter.unusedVariables false
theorem lit_ks {w : World} {g : Nat} {T : TypeId} {q1 q2 q3 : Ke} {l : List Kp} (hr : w.heap[g]? = some (.cells (flatK [q1, q2, q3]).toArray T (0, 0))) (h1 : KeAt w w.heap.size q1) (h2 : KeAt w w.heap.size q2) (h3 : KeAt w w.heap.size q3) (hv : [q1, q2, q3].map Ke.val = l) : KsP w (some ⟨g, 0, none⟩) 3 3 [q1, q2, q3] l :=
  ⟨row3 hr (Ke.L_len h1) (Ke.L_len h2) (Ke.L_len h3), fun q hq => by
    simp at hq
    rcases hq with rfl | rfl | rfl
    · exact h1
    · exact h2
    · exact h3, hv, Nat.le_refl _, by decide⟩
def plV (t rx bx g15 g17 g19 g21 g23 g25 : Nat) (CP : Array Value) (AL : Option Addr) (ML CL : Nat) (q15 q17 q19 q21 q23 q25 : Ke) (LA LF L3 : List Kp) (ea eb ec : Int) : Nat → Value → World → Prop
  | 0, v, _ => v = .pointer (some ⟨t, 0, none⟩)
  | 1, v, w => ∃ A' n' c' es', v = .slice A' n' c' ∧ KsP w A' n' c' es' LA
  | 2, v, w => ∃ A' n' c' es', v = .slice A' n' c' ∧ KsP w A' n' c' es' LA
  | 3, v, _ => v = .pointer (some ⟨rx, 1, none⟩)
  | 4, v, _ => v = .slice AL ML CL
  | 5, v, _ => v = .bool true
  | 6, v, _ => v = .bool false
  | 7, v, _ => v = .bool false
  | 8, v, _ => v = .pointer (some ⟨t, 0, none⟩)
  | 9, v, _ => v = .agg CP
  | 10, v, w => ∃ A' n' c' es', v = .slice A' n' c' ∧ KsP w A' n' c' es' LF
  | 11, v, w => ∃ A' n' c' es', v = .slice A' n' c' ∧ KsP w A' n' c' es' LF
  | 12, v, _ => v = .agg CP
  | 13, v, w => ∃ A' n' c' es', v = .slice A' n' c' ∧ KsP w A' n' c' es' LF
  | 14, v, _ => v = .bool true
  | 15, v, _ => v = .bool false
  | 16, v, _ => v = .bool false
  | 17, v, _ => v = .bool false
  | 18, v, _ => v = .agg (Ke.V q15)
  | 19, v, _ => v = .agg (Ke.V q19)
  | 20, v, _ => v = .agg (Ke.V q23)
  | 21, v, w => ∃ A' n' c' es', v = .slice A' n' c' ∧ KsP w A' n' c' es' L3
  | 22, v, w => ∃ A' n' c' es', v = .slice A' n' c' ∧ KsP w A' n' c' es' L3
  | 23, v, _ => v = .agg (Ke.V q17)
  | 24, v, _ => v = .agg (Ke.V q21)
  | 25, v, _ => v = .agg (Ke.V q25)
  | 26, v, w => ∃ A' n' c' es', v = .slice A' n' c' ∧ KsP w A' n' c' es' L3
  | 27, v, _ => v = .bool true
  | 28, v, _ => v = .bool false
  | 29, v, _ => v = .bool false
  | 30, v, _ => v = .bool false
  | 31, v, _ => v = .int .i64 ea
  | 32, v, _ => v = .int .i64 ea
  | 33, v, _ => v = .bool false
  | 34, v, _ => v = .bool false
  | 35, v, _ => v = .bool false
  | 36, v, _ => v = .int .i64 eb
  | 37, v, _ => v = .int .i64 eb
  | 38, v, _ => v = .bool false
  | 39, v, _ => v = .bool false
  | 40, v, _ => v = .bool false
  | 41, v, _ => v = .int .i64 ec
  | 42, v, _ => v = .int .i64 ec
  | 43, v, _ => v = .bool false
  | 44, v, _ => v = .bool false
  | _, _, _ => True
theorem plV.keep (t rx bx g15 g17 g19 g21 g23 g25 : Nat) (CP : Array Value) (AL : Option Addr) (ML CL : Nat) (q15 q17 q19 q21 q23 q25 : Ke) (LA LF L3 : List Kp) (ea eb ec : Int) (i : Nat) (v : Value) (w w' : World) (hb : Below w.heap.size w w') (h : plV t rx bx g15 g17 g19 g21 g23 g25 CP AL ML CL q15 q17 q19 q21 q23 q25 LA LF L3 ea eb ec i v w) : plV t rx bx g15 g17 g19 g21 g23 g25 CP AL ML CL q15 q17 q19 q21 q23 q25 LA LF L3 ea eb ec i v w' := by
  by_cases e1 : i = 1
  · subst e1
    obtain ⟨A', n', c', es', h1, h2⟩ := h
    exact ⟨A', n', c', es', h1, h2.below hb⟩
  by_cases e2 : i = 2
  · subst e2
    obtain ⟨A', n', c', es', h1, h2⟩ := h
    exact ⟨A', n', c', es', h1, h2.below hb⟩
  by_cases e10 : i = 10
  · subst e10
    obtain ⟨A', n', c', es', h1, h2⟩ := h
    exact ⟨A', n', c', es', h1, h2.below hb⟩
  by_cases e11 : i = 11
  · subst e11
    obtain ⟨A', n', c', es', h1, h2⟩ := h
    exact ⟨A', n', c', es', h1, h2.below hb⟩
  by_cases e13 : i = 13
  · subst e13
    obtain ⟨A', n', c', es', h1, h2⟩ := h
    exact ⟨A', n', c', es', h1, h2.below hb⟩
  by_cases e21 : i = 21
  · subst e21
    obtain ⟨A', n', c', es', h1, h2⟩ := h
    exact ⟨A', n', c', es', h1, h2.below hb⟩
  by_cases e22 : i = 22
  · subst e22
    obtain ⟨A', n', c', es', h1, h2⟩ := h
    exact ⟨A', n', c', es', h1, h2.below hb⟩
  by_cases e26 : i = 26
  · subst e26
    obtain ⟨A', n', c', es', h1, h2⟩ := h
    exact ⟨A', n', c', es', h1, h2.below hb⟩
  unfold plV at h ⊢
  split at h <;> first | exact h | exact absurd rfl (by assumption)
def plT : List (Option Nat) := [none, none, none, none, none, none, none, none, none, none, none, none, none, none, none, none, none, none, none, none, none, none, none, none, none, none, none, none, none, none, none, none, none, none, none, none, none, none, none, none, none, none, none, none, none, none, none, none, none, none, none, none, none, none, none, none, none, none, none, none, none, none, none, none, none, none, none, none, none, none, none, none, none, none, none, none, none, none, none, none, none, none, none, none, none, none, none, none, none, none, none, none, none, none, none, none, none, none, none, none, none, none, none, none, none, none, none, none, none, none, none, none, none, none, none, none, none, some 0, some 1, some 2, some 3, some 4, some 5, some 6, some 7, some 8, some 9, some 10, some 11, some 12, some 13, some 14, some 15, some 16, some 17, some 18, some 19, some 20, some 21, some 22, some 23, some 24, some 25, some 26, some 27, some 28, some 29, some 30, some 31, some 32, some 33, some 34, some 35, some 36, some 37, some 38, some 39, some 40, some 41, some 42, some 43, some 44, none, none]
/-- both rings drop -/
def DJ (Tb : World → (Nat → Prop) → Nat → Rg → Prop) (M rx t : Nat) (W6 : World) (S0 : Nat → Prop) (V : Nat → Value) (rg rg' : Rg) (m : Nat → Bool) (us : Nat → Value) (w : World) : Prop :=
  (∃ S, Pl Tb M rx t w S (cond (m 3) rg' rg) (cond (m 6) rg' rg) ∧ Ex rx W6 S0 w S) ∧ ∀ i, m i = true → us i = V i
theorem dj_val {m : Nat → Bool} {us V : Nat → Value} {i : Nat} {v : Value} (h : ∀ i, m i = true → us i = V i) (hv : v = V i) : ∀ j, upd m i true j = true → upd us i v j = V j := fun j hj => by
  by_cases e : j = i
  · subst e; rw [upd_same]; exact hv
  · rw [upd_other us v e]
    rw [upd_other m true e] at hj
    exact h j hj
def djV (t g10 : Nat) (num er : Int) : Nat → Value
  | 0 => .pointer (some ⟨t, 0, none⟩)
  | 1 => .pointer (some ⟨g10, 1, none⟩)
  | 2 => .int .i64 num
  | 3 => .int .i64 er
  | 4 => .pointer (some ⟨g10, 1, none⟩)
  | 5 => .int .i64 num
  | 6 => .int .i64 er
  | 7 => .bool false
  | _ => undef
def djT : List (Option Nat) := [none, none, none, none, none, none, none, none, none, none, none, none, none, none, none, none, none, none, none, none, none, none, none, none, none, none, none, none, none, none, none, none, none, none, none, none, none, none, none, none, none, none, none, none, none, none, none, none, some 0, some 1, some 2, some 3, some 4, some 5, some 6, some 7, none, none, none, none, none, none, none, none, none, none, none, none, none, none, none, none, none, none, none, none, none, none, none, none, none, none, none, none, none, none, none, none, none, none, none, none, none, none, none, none, none, none, none, none, none, none, none, none, none, none, none, none, none, none, none, none, none, none, none, none, none, none, none, none, none, none, none, none, none, none, none, none, none, none, none, none, none, none, none, none, none, none, none, none, none, none, none, none, none, none, none, none, none, none, none, none, none, none, none, none, none, none, none, none, none, none, none, none]
set_option maxRecDepth 100000 in
set_option maxHeartbeats 16000000 in
theorem plays_walk {Tb : World → (Nat → Prop) → Nat → Rg → Prop} (F : FrK Tb) (hal : Alive) (A : Option Addr) (n c : Nat) (ss : List Sk) (p : Pr) (id : Int) (w : World) (hk : SksK w w.heap.size A n ss) (hnc : n ≤ c) (hp : p.Ok) (hid : Byte id) :
    Calls Try.prog 3 #[.slice A n c, .agg (prV p), .int .u8 id] w (Ret w (.bool true)) := by
  obtain ⟨bx, hbx⟩ : ∃ g, g = w.heap.size := ⟨_, rfl⟩
  obtain ⟨W, hW⟩ : ∃ W, W = w.alloc (.cells (prV p) 30) := ⟨_, rfl⟩
  have HB := Lib.hid (show Below w.heap.size w W by rw [hW]; exact alloc_below _ _)
  have R := Lib.hid (show W.heap[bx]? = some (.cells (prV p) 30 (0, 0)) by rw [hW, hbx]; exact heap_alloc_new _ _)
  have IP := Lib.hid (prV_info hp)
  have AC := Lib.hid (show ∀ w' : World, Calls Try.prog 8 #[] w' (Ret w' (.bool true)) from hal)
  have FK := Lib.hid F
  have NC := Lib.hid (fun (w' : World) => F.new w')
  have KTB := Lib.hid F.keep
  have LTK := Lib.hid F.lt
  have ADC := Lib.hid F.add
  have DRC := Lib.hid F.drop
  have HPO := Lib.hid hp
  have ACC := Lib.hid F.all
  have GEC := Lib.hid F.get
  have HK := Lib.hid (hk.below HB.out HB.out.size)
  have he := fun (a : Addr) (w' : World) => eql_ptr_nilM (P := Try.prog) w' a Try.underlying31
  have SA := Lib.hid (fun w' => short_any A n c w' hnc)
  have FAR := Lib.hid (fun w' (h : Below W.heap.size W w') => far_any A n c ss w' ((hk.below HB.out HB.out.size).below h h.size) hnc)
  have e100 : ss.take (min n 100) = ss.take 100 := by
    rcases Nat.le_total n 100 with q | q
    · rw [Nat.min_eq_left q, List.take_of_length_le (by rw [hk.len]; exact Nat.le_refl _), List.take_of_length_le (by rw [hk.len]; exact q)]
    · rw [Nat.min_eq_right q]
  have HP := Lib.hid ((hk.upto (Nat.min_le_left n 100)).below HB.out HB.out.size)
  rw [e100] at HP
  have HM := Lib.hid (show min n 100 ≤ 100 from Nat.min_le_right _ _)
  have FCC0 := Lib.hid (fun (w' : World) (S : Nat → Prop) (t : Nat) (rg : Rg) (h : Tb w' S t rg) (hi : Inv rg) => F.for_ w' S t rg p h hi hp)
  have SDC0 := Lib.hid (fun (w' : World) (S : Nat → Prop) (t : Nat) (rg : Rg) (h : Tb w' S t rg) (hi : Inv rg) => F.sends w' S t rg p id h hi hp hid)
  have GTC0 := Lib.hid (fun (w' : World) (S : Nat → Prop) (t : Nat) (rg : Rg) (h : Tb w' S t rg) (hi : Inv rg) => F.gets w' S t rg p id h hi hp hid)
  obtain ⟨CP, hCP⟩ : ∃ C, C = prV p := ⟨_, rfl⟩
  have HCP := Lib.hid hCP.symm
  have FCC := Lib.hid (show ∀ (w' : World) (S : Nat → Prop) (t : Nat) (rg : Rg), Tb w' S t rg → Inv rg → Calls Try.prog 24 #[.pointer (some ⟨t, 0, none⟩), .agg CP] w' (TellR w' (forL rg p)) by rw [hCP]; exact FCC0.out)
  have SDC := Lib.hid (show ∀ (w' : World) (S : Nat → Prop) (t : Nat) (rg : Rg), Tb w' S t rg → Inv rg → Calls Try.prog 15 #[.pointer (some ⟨t, 0, none⟩), .agg CP, .int .u8 id] w' (FindR w' (sendP rg p id)) by rw [hCP]; exact SDC0.out)
  have GTC := Lib.hid (show ∀ (w' : World) (S : Nat → Prop) (t : Nat) (rg : Rg), Tb w' S t rg → Inv rg → Calls Try.prog 17 #[.pointer (some ⟨t, 0, none⟩), .agg CP, .int .u8 id] w' (FindR w' (getsP rg p id)) by rw [hCP]; exact GTC0.out)
  have RSD := Lib.hid (show ∀ (w' : World) (r M : Nat) (rg : Rg), RgAt w' r M rg → Calls Try.prog 16 #[.pointer (some ⟨r, 0, none⟩), .agg CP, .int .u8 id] w' (PickR w' M (sendP rg p id)) by rw [hCP]; exact fun w' r M rg h => rsends_any w' r M rg p id h HPO.out)
  have RGT := Lib.hid (show ∀ (w' : World) (r M : Nat) (rg : Rg), RgAt w' r M rg → Calls Try.prog 18 #[.pointer (some ⟨r, 0, none⟩), .agg CP, .int .u8 id] w' (PickR w' M (getsP rg p id)) by rw [hCP]; exact fun w' r M rg h => rgets_any w' r M rg p id h HPO.out)
  rw [← hCP] at R IP hW
  rw [← hCP]
  obtain ⟨M, hM⟩ : ∃ M, M = W.heap.size := ⟨_, rfl⟩
  have HMW0 := Lib.hid hM
  obtain ⟨ZV, hZV⟩ : ∃ Z, Z = ktV zKt none 0 0 := ⟨_, rfl⟩
  have HZP := Lib.hid (show ∀ w' : World, (zeroValue 49).run Try.prog w' = .ok (.agg ZV) w' by rw [hZV]; exact zeroPk)
  have HZK := Lib.hid (show ∀ w' : World, (zeroValue 41).run Try.prog w' = .ok (.agg ZV) w' by rw [hZV]; exact zeroRk)
  have ZSZ := Lib.hid (show ZV.size = 26 by rw [hZV]; exact zV_size)
  obtain ⟨ZS, hZS⟩ : ∃ Z, Z = zSk.cells.toArray := ⟨_, rfl⟩
  have HZS := Lib.hid (show ∀ w' : World, (zeroValue 43).run Try.prog w' = .ok (.agg ZS) w' by rw [hZS]; exact zeroStep)
  have ZSS := Lib.hid (show ZS.size = 28 by rw [hZS]; exact zSk_len)
  have hzr := zeroRg
  clear F hal hk hnc hp hid hCP hM hZV hZS FCC0 SDC0 GTC0
  obtain ⟨fk, hfk⟩ : ∃ f, f = farK (ss.take 100) := ⟨_, rfl⟩
  rw [← hfk] at FAR
  have HFK := Lib.hid hfk
  clear hfk e100
  generalize ss.take 100 = ts at *
  generalize min n 100 = m at *
  go_enter Try.func3, Try.ntmps3
  go_upto_region 1 with fail
  rw [← hW]
  rw [← hbx]
  clear hW hbx
  go_upto_region 3 with (first
    | (go_at_call 6; (refine (NC.out _).mono ?_); rintro e w2 ⟨t, S1, rfl, hT, hS, hb⟩
       have B2 := Lib.hid hb
       have T2 := Lib.hid hT
       have S2 := Lib.hid hS
       clear hb hT hS))
  obtain ⟨w3, hw3⟩ : ∃ v, v = w2.alloc (.cells #[.int .i64 0, .slice none 0 0] 35) := ⟨_, rfl⟩
  obtain ⟨rx, hrx⟩ : ∃ r, r = w2.heap.size := ⟨_, rfl⟩
  rw [← hw3]
  rw [← hrx]
  have A3 := Lib.hid (show Below w2.heap.size w2 w3 by rw [hw3]; exact alloc_below _ _)
  have B3 := Lib.hid (show Below W.heap.size W w3 from B2.out.trans (A3.out.mono B2.out.size))
  have PL3 := Lib.hid (show Pl Tb M rx t w3 S1 ⟨0, []⟩ ⟨0, []⟩ from
    ⟨KTB.out _ _ _ _ _ T2.out A3.out.size (fun k hk => A3.out.block k (LTK.out _ _ _ _ T2.out k hk)), (fun k hk => by rw [HMW0.out]; exact S2.out k hk), (fun hs => by have := LTK.out _ _ _ _ T2.out rx hs; omega),
     ⟨none, 0, 0, [], ⟨by rw [hw3, hrx]; exact heap_alloc_new _ _, ⟨rfl, fun h => absurd h (Nat.lt_irrefl 0)⟩, (fun e he => by cases he), rfl, Nat.le_refl _, Nat.zero_le _, Nat.zero_le _, (by rw [HMW0.out, hrx]; exact B2.out.size), Int.le_refl _, (by decide), (fun _ => .inl rfl)⟩, fun h => absurd h (Nat.lt_irrefl 0)⟩⟩)
  have he1 := he ⟨t, 0, none⟩ w3
  have FA := Lib.hid (FAR.out w3 B3.out)
  clear hw3 hrx he hzr FAR
  cases fk
  rotate_left
  · go_upto_region 4 with (first
      | go_skip
      | (go_at_call 7; (with_reducible refine FA.out.mono ?_); rintro e w4 ⟨rfl, hb⟩
         have B4 := Lib.hid hb
         clear hb))
    have he2 := eql_ptr_nilM (P := Try.prog) w4 ⟨t, 0, none⟩ Try.underlying31
    clear he1
    go_wp2_with (first
      | go_skip
      | (go_at_call 8; (with_reducible refine (AC.out _).mono ?_); rintro e w5 ⟨rfl, hb⟩
         have B5 := Lib.hid hb
         clear hb))
    go_ret
    exact ⟨rfl, HB.out.trans ((B3.out.trans ((B4.out.trans (B5.out.mono B4.out.size)).mono B3.out.size)).mono HB.out.size)⟩
  have HNF := Lib.hid (show ∀ s ∈ ts, s.e.n ≤ 200 from fun s hs => by
    have h1 := HFK.out
    unfold farK at h1
    have h2 := List.any_eq_false.1 h1.symm s hs
    simp at h2
    exact h2)
  go_upto_region 6 with (first
    | go_skip
    | (go_at_call 7; (with_reducible refine FA.out.mono ?_); rintro e w4 ⟨rfl, hb⟩
       have B4 := Lib.hid hb
       clear hb)
    | (go_at_call 9; refine (SA.out _).mono ?_; rintro e w5 ⟨rfl, hw⟩; obtain rfl := hw.symm))
  clear he1 FA HFK SA
  have PL4 := Lib.hid (PL3.out.below FK.out B4.out)
  have B4 := Lib.hid (show Below W.heap.size W w4 from B3.out.trans (B4.out.mono B3.out.size))
  go_loopw [42] (fun u wr => ∃ (i : Nat) (S : Nat → Prop) (rg : Rg), u = .int .i64 i ∧ i ≤ m ∧ Inv rg ∧ Pl Tb M rx t wr S rg rg ∧ Below W.heap.size W wr) (fun u _ => 1000 - (intOf u).toNat)
  case atStart => exact ⟨0, S1, ⟨0, []⟩, rfl, Nat.zero_le _, Inv.zero, PL4.out, B4.out⟩
  case round =>
    obtain ⟨i, S0, rg, rfl, hi, hinv, hpl, hb⟩ := hrel
    have HBW := Lib.hid hb
    have HPL := Lib.hid hpl
    have HIR := Lib.hid hinv
    clear hinv
    by_cases hlt : i < m
    rotate_left
    · have q6 : ¬ (i : Int) < (m : Int) := by omega
      clear hi hpl hlt hb
      go_wp2_with (first
        | go_skip
        | (go_at_call 8; (with_reducible refine (AC.out _).mono ?_); rintro e w5 ⟨rfl, hb⟩
           have B5 := Lib.hid hb
           clear hb))
      go_ret
      exact ⟨rfl, HB.out.trans ((HBW.out.trans (B5.out.mono HBW.out.size)).mono HB.out.size)⟩
    have q6 : (i : Int) < (m : Int) := by omega
    have wi : IntKind.i64.wrap ((i : Int) + 1) = (i : Int) + 1 := IntWalk.i64_in _ (by have := HM.out; omega)
    obtain ⟨x, hx⟩ : ∃ x, ts[i]? = some x := ⟨_, List.getElem?_eq_getElem (by rw [HP.out.len]; exact hlt)⟩
    have mx := List.mem_of_getElem? hx
    have ox := HP.out.ok x mx
    obtain ⟨b1, o1, hA1, hb1, c1⟩ := HP.out.at_ (by omega)
    have C1 := Lib.hid (show ∀ q v, x.cells[q]? = some v → wr.cell? ⟨b1, o1 + i * 28 + q, none⟩ = some v from fun q v hv => (hb.cell (p := ⟨b1, o1 + i * 28 + q, none⟩) hb1).trans (c1 i x hx q v hv))
    have IS := Lib.hid (show (Try.prog.info? 43).map (·.size) = some x.cells.length by rw [Sk.cells_len ox.e.ok]; exact step_info)
    have IS2 := Lib.hid (Sk.size ox.e.ok)
    have ZXS := Lib.hid (show ZS.size = x.cells.toArray.size by rw [ZSS.out, List.size_toArray, Sk.cells_len ox.e.ok])
    have OS := Lib.hid (Sk.ones x)
    obtain ⟨y6, hy6⟩ : ∃ W6, W6 = wr.alloc (.cells x.cells.toArray 43) := ⟨_, rfl⟩
    obtain ⟨g10, hg10⟩ : ∃ g, g = wr.heap.size := ⟨_, rfl⟩
    have R6 := Lib.hid (show y6.heap[g10]? = some (.cells x.cells.toArray 43 (0, 0)) by rw [hy6, hg10]; exact heap_alloc_new _ _)
    have A6 := Lib.hid (show Below wr.heap.size wr y6 by rw [hy6]; exact alloc_below _ _)
    have PL6 := Lib.hid (hpl.below FK.out A6.out)
    have BB6 := Lib.hid (show Below W.heap.size W y6 from hb.trans (A6.out.mono hb.size))
    have N6 := Lib.hid (show ¬ S0 g10 ∧ g10 ≠ rx from ⟨fun hs => by have := LTK.out _ _ _ _ hpl.tb g10 hs; omega, fun e => by have := hpl.lt; omega⟩)
    have OX := Lib.hid ox
    have NX := Lib.hid (HNF.out x mx)
    have HI := Lib.hid hlt
    have hzs := HZS.out
    have EX6 := Lib.hid (Ex.refl (rx := rx) (w := y6) (S := S0))
    have KEX := Lib.hid (show KeAt W M x.e by rw [HMW0.out]; exact ox.e)
    subst hA1
    generalize hXC : x.cells = XC at *
    clear hi hpl hb hx mx ox hb1 c1 hlt
    go_upto_region 8 with (first
      | (refine pkC.wpList_load_partG (by kernel_rfl) 43 (.tmp 44) rfl b1 (o1 + i * 28) (by kernel_rfl) XC _ C1.out Try.underlying43 rfl IS.out ?_)
      | (refine wpList_store_row rfl 43 (.tmp 10) (.tmp 45) rfl wr.heap.size XC.toArray rfl rfl _ _ (heap_alloc_new _ _) IS2.out ZXS.out OS.out ?_; rw [World.setRow_alloc_new]))
    rw [← hy6]
    rw [← hg10]
    clear hy6 hg10 hzs
    subst hXC
    have cd : y6.cell? ⟨g10, 0, none⟩ = some (.bool x.drop) := cell_of_row y6 g10 0 _ _ (0, 0) R6.out
    cases hdr : x.drop
    · rw [hdr] at cd
      have C2 := Lib.hid (fun (w' : World) (S' : Nat → Prop) (E : Ex rx y6 S0 w' S') => (show ∀ j v, x.e.L[j]? = some v → w'.cell? ⟨g10, 2 + j, none⟩ = some v from fun j v hv => by rw [cell_of_row w' g10 (2 + j) _ _ (0, 0) (E.row R6.out N6.out.1 N6.out.2), List.getElem?_toArray]; exact Sk.key j v hv))
      have IE := Lib.hid (show (Try.prog.info? 41).map (·.size) = some x.e.L.length by rw [Ke.L_len OX.out.e]; exact rk_info)
      have TH := Lib.hid (fun w' => (show Calls Try.prog 13 #[.agg x.e.L.toArray] w' (Ret w' (.agg x.e.V)) from theirs_any x.e.k x.e.A x.e.n x.e.c w' OX.out.e.ok))
      have CC6 := Lib.hid (C2.out y6 S0 EX6.out)
      go_upto_region 12 with (first
        | (refine pkC.wpList_load_partG (by kernel_rfl) 41 (.tmp 58) rfl g10 2 (by kernel_rfl) x.e.L _ CC6.out Try.underlying41 rfl IE.out ?_)
        | (go_at_call 13; (with_reducible refine (TH.out _).mono ?_); rintro e w7 ⟨rfl, hb⟩
           have PL7 := Lib.hid (PL6.out.below FK.out hb)
           have BB7 := Lib.hid (show Below W.heap.size W w7 from BB6.out.trans (hb.mono BB6.out.size))
           have EX7 := Lib.hid (show Ex rx y6 S0 w7 S0 from Ex.below hb)
           have KE7 := Lib.hid (KEX.out.below (by rw [HMW0.out]; exact BB7.out) (Nat.le_refl _))
           have KF7 := Lib.hid (KE7.out.below (Below.refl _ _) (show M ≤ w7.heap.size by rw [HMW0.out]; exact BB7.out.size))
           clear hb)
        | (go_at_call 12; (with_reducible refine (ADC.out _ _ _ _ x.e PL7.out.tb HIR.out KF7.out NX.out).mono ?_); rintro e w8 ⟨rfl, S8, hT, hS, hF⟩
           have PE := PL7.out.prog FK.out hT hS hF
           have PL8 := Lib.hid PE.1
           have BB8 := Lib.hid (show Below W.heap.size W w8 from BB7.out.trans (by have h9 := PE.2.to_below PL7.out; rw [HMW0.out] at h9; exact h9))
           have EX8 := Lib.hid (EX7.out.trans PE.2)
           clear PE hT hS hF))
      clear cd
      have CC8 := Lib.hid (C2.out w8 S8 EX8.out)
      have KE8 := Lib.hid (KEX.out.below (by rw [HMW0.out]; exact BB8.out) (Nat.le_refl _))
      have RAC := Lib.hid (show Calls Try.prog 14 #[.pointer (some ⟨rx, 0, none⟩), .agg x.e.L.toArray] w8 (AddR w8 rx M (fun k => ¬ S8 k) (addN rg x.e.val) (addErr rg x.e.val) (addR rg x.e.val)) from radd_any w8 rx M rg x.e.k x.e.A x.e.n x.e.c x.e.m (fun k => ¬ S8 k) (fun b hb hs => by have := LTK.out w8 S8 t _ PL8.out.tb b hs; omega) PL8.out.rg KE8.out)
      have HIV := Lib.hid (HIR.out.add (k := x.e.val) OX.out.e.ok OX.out.e.byte)
      go_upto_region 15 with (first
        | go_skip
        | (refine pkC.wpList_load_partG (by kernel_rfl) 41 (.tmp 65) rfl g10 2 (by kernel_rfl) x.e.L _ CC8.out Try.underlying41 rfl IE.out ?_)
        | (go_at_call 14; (with_reducible refine RAC.out.mono ?_); rintro e y14 ⟨rfl, hr, hb⟩
           have PE := PL8.out.doc FK.out hr hb
           have PL9 := Lib.hid PE.1
           have BL9 := Lib.hid (show Below W.heap.size W y14 from BB8.out.trans (by have h9 := PE.2.to_below PL8.out; rw [HMW0.out] at h9; exact h9))
           have EX9 := Lib.hid (EX8.out.trans PE.2)
           clear PE hr hb))
      have R9 := Lib.hid (EX9.out.row R6.out N6.out.1 N6.out.2)
      clear RAC CC8 CC6 EX7 EX8 PL7 PL8 PL6 KE7 KE8 KF7 EX9
      generalize addErr rg x.e.val = er at *
      generalize addN rg x.e.val = nn at *
      generalize hrg1 : addR rg x.e.val = rg1 at *
      generalize S8 = S9 at *
      clear hrg1
      have KP9 := Lib.hid (fun w' (h : Below y14.heap.size y14 w') => (show w'.heap[bx]? = some (.cells CP 30 (0, 0)) from ((BL9.out.trans (h.mono BL9.out.size)).block _ (lt_of_row R.out)).trans R.out))
      have KN9 := Lib.hid (fun w' (h : Below y14.heap.size y14 w') => (show w'.cell? ⟨g10, 1, none⟩ = some (.int .i64 x.num) from by rw [cell_of_row w' g10 1 _ _ (0, 0) ((h.block _ (lt_of_row R9.out)).trans R9.out)]; rfl))
      have PLK := Lib.hid (fun w' (h : Below y14.heap.size y14 w') => PL9.out.below FK.out h)
      have D14 := Lib.hid (Below.refl y14.heap.size y14)
      have KPr := Lib.hid (KP9.out y14 D14.out)
      have hzp := HZP.out
      go_upto_region 16 with (first
        | (refine wpList_load_row rfl 30 (.tmp 4) rfl bx rfl _ _ _ _ KPr.out Try.underlying30 rfl IP.out ?_)
        | (go_at_call 15; (with_reducible refine (SDC.out _ _ _ _ (PLK.out y14 D14.out).tb HIV.out).mono ?_); rintro e z15 ⟨q15, hke, hval, rfl, hb⟩
           have KZ15 := Lib.hid hke
           have VQ15 := Lib.hid hval
           have BZ15 := Lib.hid hb
           have IQ15 := Lib.hid (show (Try.prog.info? 49).map (·.size) = some q15.V.size by rw [Ke.V_size hke]; exact pk_info)
           have ZQ15 := Lib.hid (show ZV.size = q15.V.size by rw [ZSZ.out, Ke.V_size hke])
           have OQ15 := Lib.hid (show q15.V.all (·.oneCell') = true from kt_ones)
           clear hke hval hb)
        | (refine wpList_store_row rfl 49 (.tmp 15) (.tmp 83) rfl z15.heap.size q15.V rfl rfl _ _ (heap_alloc_new _ _) IQ15.out ZQ15.out OQ15.out ?_; rw [World.setRow_alloc_new]))
      clear hzp KPr
      obtain ⟨y15, hy15⟩ : ∃ y, y = z15.alloc (.cells q15.V 49) := ⟨_, rfl⟩
      obtain ⟨g15, hg15⟩ : ∃ g, g = z15.heap.size := ⟨_, rfl⟩
      rw [← hy15]
      rw [← hg15]
      have RQ15 := Lib.hid (show y15.heap[g15]? = some (.cells q15.V 49 (0, 0)) by rw [hy15, hg15]; exact heap_alloc_new _ _)
      have BA15 := Lib.hid (show Below z15.heap.size z15 y15 by rw [hy15]; exact alloc_below _ _)
      have BY15 := Lib.hid (show Below y14.heap.size y14 y15 from BZ15.out.trans (BA15.out.mono BZ15.out.size))
      have KY15 := Lib.hid (KZ15.out.below BA15.out BA15.out.size)
      have D15 := Lib.hid (show Below y14.heap.size y14 y15 from D14.out.trans (BY15.out.mono D14.out.size))
      clear hy15 hg15 KZ15 ZQ15 OQ15
      have KPr := Lib.hid (KP9.out y15 D15.out)
      have hzk := HZK.out
      go_upto_region 17 with (first
        | (refine wpList_load_row rfl 30 (.tmp 4) rfl bx rfl _ _ _ _ KPr.out Try.underlying30 rfl IP.out ?_)
        | (go_at_call 16; (with_reducible refine (RSD.out _ rx M rg1 (PLK.out y15 D15.out).rg.at_).mono ?_); rintro e z16 ⟨q17, hke, hval, rfl, hb⟩
           have KZ17 := Lib.hid (hke.below (Below.refl _ _) (show M ≤ z16.heap.size from by have h1 := (PLK.out y15 D15.out).mr; have h2 := (PLK.out y15 D15.out).lt; have h3 := hb.size; omega))
           have VQ17 := Lib.hid hval
           have BZ16 := Lib.hid hb
           have IQ17 := Lib.hid (show (Try.prog.info? 41).map (·.size) = some q17.V.size by rw [Ke.V_size hke]; exact rk_info)
           have ZQ17 := Lib.hid (show ZV.size = q17.V.size by rw [ZSZ.out, Ke.V_size hke])
           have OQ17 := Lib.hid (show q17.V.all (·.oneCell') = true from kt_ones)
           clear hke hval hb)
        | (refine wpList_store_row rfl 41 (.tmp 17) (.tmp 89) rfl z16.heap.size q17.V rfl rfl _ _ (heap_alloc_new _ _) IQ17.out ZQ17.out OQ17.out ?_; rw [World.setRow_alloc_new]))
      clear hzk KPr
      obtain ⟨y16, hy16⟩ : ∃ y, y = z16.alloc (.cells q17.V 41) := ⟨_, rfl⟩
      obtain ⟨g17, hg17⟩ : ∃ g, g = z16.heap.size := ⟨_, rfl⟩
      rw [← hy16]
      rw [← hg17]
      have RQ17 := Lib.hid (show y16.heap[g17]? = some (.cells q17.V 41 (0, 0)) by rw [hy16, hg17]; exact heap_alloc_new _ _)
      have BA16 := Lib.hid (show Below z16.heap.size z16 y16 by rw [hy16]; exact alloc_below _ _)
      have BY16 := Lib.hid (show Below y15.heap.size y15 y16 from BZ16.out.trans (BA16.out.mono BZ16.out.size))
      have KY17 := Lib.hid (KZ17.out.below BA16.out BA16.out.size)
      have D16 := Lib.hid (show Below y14.heap.size y14 y16 from D15.out.trans (BY16.out.mono D15.out.size))
      clear hy16 hg17 KZ17 ZQ17 OQ17
      have KPr := Lib.hid (KP9.out y16 D16.out)
      have hzp := HZP.out
      go_upto_region 18 with (first
        | (refine wpList_load_row rfl 30 (.tmp 4) rfl bx rfl _ _ _ _ KPr.out Try.underlying30 rfl IP.out ?_)
        | (go_at_call 17; (with_reducible refine (GTC.out _ _ _ _ (PLK.out y16 D16.out).tb HIV.out).mono ?_); rintro e z17 ⟨q19, hke, hval, rfl, hb⟩
           have KZ19 := Lib.hid hke
           have VQ19 := Lib.hid hval
           have BZ17 := Lib.hid hb
           have IQ19 := Lib.hid (show (Try.prog.info? 49).map (·.size) = some q19.V.size by rw [Ke.V_size hke]; exact pk_info)
           have ZQ19 := Lib.hid (show ZV.size = q19.V.size by rw [ZSZ.out, Ke.V_size hke])
           have OQ19 := Lib.hid (show q19.V.all (·.oneCell') = true from kt_ones)
           clear hke hval hb)
        | (refine wpList_store_row rfl 49 (.tmp 19) (.tmp 96) rfl z17.heap.size q19.V rfl rfl _ _ (heap_alloc_new _ _) IQ19.out ZQ19.out OQ19.out ?_; rw [World.setRow_alloc_new]))
      clear hzp KPr
      obtain ⟨y17, hy17⟩ : ∃ y, y = z17.alloc (.cells q19.V 49) := ⟨_, rfl⟩
      obtain ⟨g19, hg19⟩ : ∃ g, g = z17.heap.size := ⟨_, rfl⟩
      rw [← hy17]
      rw [← hg19]
      have RQ19 := Lib.hid (show y17.heap[g19]? = some (.cells q19.V 49 (0, 0)) by rw [hy17, hg19]; exact heap_alloc_new _ _)
      have BA17 := Lib.hid (show Below z17.heap.size z17 y17 by rw [hy17]; exact alloc_below _ _)
      have BY17 := Lib.hid (show Below y16.heap.size y16 y17 from BZ17.out.trans (BA17.out.mono BZ17.out.size))
      have KY19 := Lib.hid (KZ19.out.below BA17.out BA17.out.size)
      have D17 := Lib.hid (show Below y14.heap.size y14 y17 from D16.out.trans (BY17.out.mono D16.out.size))
      clear hy17 hg19 KZ19 ZQ19 OQ19
      have KPr := Lib.hid (KP9.out y17 D17.out)
      have hzk := HZK.out
      go_upto_region 19 with (first
        | (refine wpList_load_row rfl 30 (.tmp 4) rfl bx rfl _ _ _ _ KPr.out Try.underlying30 rfl IP.out ?_)
        | (go_at_call 18; (with_reducible refine (RGT.out _ rx M rg1 (PLK.out y17 D17.out).rg.at_).mono ?_); rintro e z18 ⟨q21, hke, hval, rfl, hb⟩
           have KZ21 := Lib.hid (hke.below (Below.refl _ _) (show M ≤ z18.heap.size from by have h1 := (PLK.out y17 D17.out).mr; have h2 := (PLK.out y17 D17.out).lt; have h3 := hb.size; omega))
           have VQ21 := Lib.hid hval
           have BZ18 := Lib.hid hb
           have IQ21 := Lib.hid (show (Try.prog.info? 41).map (·.size) = some q21.V.size by rw [Ke.V_size hke]; exact rk_info)
           have ZQ21 := Lib.hid (show ZV.size = q21.V.size by rw [ZSZ.out, Ke.V_size hke])
           have OQ21 := Lib.hid (show q21.V.all (·.oneCell') = true from kt_ones)
           clear hke hval hb)
        | (refine wpList_store_row rfl 41 (.tmp 21) (.tmp 102) rfl z18.heap.size q21.V rfl rfl _ _ (heap_alloc_new _ _) IQ21.out ZQ21.out OQ21.out ?_; rw [World.setRow_alloc_new]))
      clear hzk KPr
      obtain ⟨y18, hy18⟩ : ∃ y, y = z18.alloc (.cells q21.V 41) := ⟨_, rfl⟩
      obtain ⟨g21, hg21⟩ : ∃ g, g = z18.heap.size := ⟨_, rfl⟩
      rw [← hy18]
      rw [← hg21]
      have RQ21 := Lib.hid (show y18.heap[g21]? = some (.cells q21.V 41 (0, 0)) by rw [hy18, hg21]; exact heap_alloc_new _ _)
      have BA18 := Lib.hid (show Below z18.heap.size z18 y18 by rw [hy18]; exact alloc_below _ _)
      have BY18 := Lib.hid (show Below y17.heap.size y17 y18 from BZ18.out.trans (BA18.out.mono BZ18.out.size))
      have KY21 := Lib.hid (KZ21.out.below BA18.out BA18.out.size)
      have D18 := Lib.hid (show Below y14.heap.size y14 y18 from D17.out.trans (BY18.out.mono D17.out.size))
      clear hy18 hg21 KZ21 ZQ21 OQ21
      have cn := KN9.out y18 D18.out
      have hzp := HZP.out
      go_upto_region 20 with (first
        | (go_at_call 19; (with_reducible refine (GEC.out _ _ _ _ x.num (PLK.out y18 D18.out).tb HIV.out).mono ?_); rintro e z19 ⟨q23, hke, hval, rfl, hb⟩
           have KZ23 := Lib.hid hke
           have VQ23 := Lib.hid hval
           have BZ19 := Lib.hid hb
           have IQ23 := Lib.hid (show (Try.prog.info? 49).map (·.size) = some q23.V.size by rw [Ke.V_size hke]; exact pk_info)
           have ZQ23 := Lib.hid (show ZV.size = q23.V.size by rw [ZSZ.out, Ke.V_size hke])
           have OQ23 := Lib.hid (show q23.V.all (·.oneCell') = true from kt_ones)
           clear hke hval hb)
        | (refine wpList_store_row rfl 49 (.tmp 23) (.tmp 109) rfl z19.heap.size q23.V rfl rfl _ _ (heap_alloc_new _ _) IQ23.out ZQ23.out OQ23.out ?_; rw [World.setRow_alloc_new]))
      clear hzp
      obtain ⟨y19, hy19⟩ : ∃ y, y = z19.alloc (.cells q23.V 49) := ⟨_, rfl⟩
      obtain ⟨g23, hg23⟩ : ∃ g, g = z19.heap.size := ⟨_, rfl⟩
      rw [← hy19]
      rw [← hg23]
      have RQ23 := Lib.hid (show y19.heap[g23]? = some (.cells q23.V 49 (0, 0)) by rw [hy19, hg23]; exact heap_alloc_new _ _)
      have BA19 := Lib.hid (show Below z19.heap.size z19 y19 by rw [hy19]; exact alloc_below _ _)
      have BY19 := Lib.hid (show Below y18.heap.size y18 y19 from BZ19.out.trans (BA19.out.mono BZ19.out.size))
      have KY23 := Lib.hid (KZ23.out.below BA19.out BA19.out.size)
      have D19 := Lib.hid (show Below y14.heap.size y14 y19 from D18.out.trans (BY19.out.mono D18.out.size))
      clear hy19 hg23 KZ23 ZQ23 OQ23
      try clear cn
      have cn := KN9.out y19 D19.out
      have hzk := HZK.out
      go_upto_region 21 with (first
        | (go_at_call 20; (with_reducible refine (rget_any _ rx M rg1 x.num (PLK.out y19 D19.out).rg.at_).mono ?_); rintro e z20 ⟨q25, hke, hval, rfl, hb⟩
           have KZ25 := Lib.hid (hke.below (Below.refl _ _) (show M ≤ z20.heap.size from by have h1 := (PLK.out y19 D19.out).mr; have h2 := (PLK.out y19 D19.out).lt; have h3 := hb.size; omega))
           have VQ25 := Lib.hid hval
           have BZ20 := Lib.hid hb
           have IQ25 := Lib.hid (show (Try.prog.info? 41).map (·.size) = some q25.V.size by rw [Ke.V_size hke]; exact rk_info)
           have ZQ25 := Lib.hid (show ZV.size = q25.V.size by rw [ZSZ.out, Ke.V_size hke])
           have OQ25 := Lib.hid (show q25.V.all (·.oneCell') = true from kt_ones)
           clear hke hval hb)
        | (refine wpList_store_row rfl 41 (.tmp 25) (.tmp 115) rfl z20.heap.size q25.V rfl rfl _ _ (heap_alloc_new _ _) IQ25.out ZQ25.out OQ25.out ?_; rw [World.setRow_alloc_new]))
      clear hzk
      obtain ⟨y20, hy20⟩ : ∃ y, y = z20.alloc (.cells q25.V 41) := ⟨_, rfl⟩
      obtain ⟨g25, hg25⟩ : ∃ g, g = z20.heap.size := ⟨_, rfl⟩
      rw [← hy20]
      rw [← hg25]
      have RQ25 := Lib.hid (show y20.heap[g25]? = some (.cells q25.V 41 (0, 0)) by rw [hy20, hg25]; exact heap_alloc_new _ _)
      have BA20 := Lib.hid (show Below z20.heap.size z20 y20 by rw [hy20]; exact alloc_below _ _)
      have BY20 := Lib.hid (show Below y19.heap.size y19 y20 from BZ20.out.trans (BA20.out.mono BZ20.out.size))
      have KY25 := Lib.hid (KZ25.out.below BA20.out BA20.out.size)
      have D20 := Lib.hid (show Below y14.heap.size y14 y20 from D19.out.trans (BY20.out.mono D19.out.size))
      clear hy20 hg25 KZ25 ZQ25 OQ25
      try clear cn
      have C20 := Lib.hid (Below.refl y20.heap.size y20)
      have C19 := Lib.hid (show Below y19.heap.size y19 y20 from BY20.out.trans (C20.out.mono BY20.out.size))
      have C18 := Lib.hid (show Below y18.heap.size y18 y20 from BY19.out.trans (C19.out.mono BY19.out.size))
      have C17 := Lib.hid (show Below y17.heap.size y17 y20 from BY18.out.trans (C18.out.mono BY18.out.size))
      have C16 := Lib.hid (show Below y16.heap.size y16 y20 from BY17.out.trans (C17.out.mono BY17.out.size))
      have C15 := Lib.hid (show Below y15.heap.size y15 y20 from BY16.out.trans (C16.out.mono BY16.out.size))
      have RQ15 := Lib.hid (fun w' (h : Gr y20 w') => (show w'.heap[g15]? = some (.cells q15.V 49 (0, 0)) from (h.block _ (by have := lt_of_row RQ15.out; have := C15.out.size; omega)).trans ((C15.out.block _ (lt_of_row RQ15.out)).trans RQ15.out)))
      have KQ15 := Lib.hid (fun w' (h : Gr y20 w') => (KY15.out.below C15.out C15.out.size).below h (Below.size h))
      have RQ17 := Lib.hid (fun w' (h : Gr y20 w') => (show w'.heap[g17]? = some (.cells q17.V 41 (0, 0)) from (h.block _ (by have := lt_of_row RQ17.out; have := C16.out.size; omega)).trans ((C16.out.block _ (lt_of_row RQ17.out)).trans RQ17.out)))
      have KQ17 := Lib.hid (fun w' (h : Gr y20 w') => (KY17.out.below C16.out C16.out.size).below h (Below.size h))
      have RQ19 := Lib.hid (fun w' (h : Gr y20 w') => (show w'.heap[g19]? = some (.cells q19.V 49 (0, 0)) from (h.block _ (by have := lt_of_row RQ19.out; have := C17.out.size; omega)).trans ((C17.out.block _ (lt_of_row RQ19.out)).trans RQ19.out)))
      have KQ19 := Lib.hid (fun w' (h : Gr y20 w') => (KY19.out.below C17.out C17.out.size).below h (Below.size h))
      have RQ21 := Lib.hid (fun w' (h : Gr y20 w') => (show w'.heap[g21]? = some (.cells q21.V 41 (0, 0)) from (h.block _ (by have := lt_of_row RQ21.out; have := C18.out.size; omega)).trans ((C18.out.block _ (lt_of_row RQ21.out)).trans RQ21.out)))
      have KQ21 := Lib.hid (fun w' (h : Gr y20 w') => (KY21.out.below C18.out C18.out.size).below h (Below.size h))
      have RQ23 := Lib.hid (fun w' (h : Gr y20 w') => (show w'.heap[g23]? = some (.cells q23.V 49 (0, 0)) from (h.block _ (by have := lt_of_row RQ23.out; have := C19.out.size; omega)).trans ((C19.out.block _ (lt_of_row RQ23.out)).trans RQ23.out)))
      have KQ23 := Lib.hid (fun w' (h : Gr y20 w') => (KY23.out.below C19.out C19.out.size).below h (Below.size h))
      have RQ25 := Lib.hid (fun w' (h : Gr y20 w') => (show w'.heap[g25]? = some (.cells q25.V 41 (0, 0)) from (h.block _ (by have := lt_of_row RQ25.out; have := C20.out.size; omega)).trans ((C20.out.block _ (lt_of_row RQ25.out)).trans RQ25.out)))
      have KQ25 := Lib.hid (fun w' (h : Gr y20 w') => (KY25.out.below C20.out C20.out.size).below h (Below.size h))
      have PL20 := Lib.hid (PLK.out y20 D20.out)
      have KP := Lib.hid (fun w' (h : Gr y20 w') => KP9.out w' (D20.out.trans (Below.mono h D20.out.size)))
      have PLW := Lib.hid (fun w' (h : Gr y20 w') => PL20.out.below FK.out h)
      have ALC := Lib.hid (fun w' (h : Gr y20 w') => ACC.out w' S9 t rg1 (PLW.out w' h).tb HIV.out)
      have FRC := Lib.hid (fun w' (h : Gr y20 w') => FCC.out w' S9 t rg1 (PLW.out w' h).tb HIV.out)
      have RFC := Lib.hid (fun w' (h : Gr y20 w') => (show Calls Try.prog 25 #[.pointer (some ⟨rx, 0, none⟩), .agg CP] w' (ForR w' M (forL rg1 p)) by have h9 := rfor_any w' rx M rg1 p (PLW.out w' h).rg.at_ HPO.out; rw [HCP.out] at h9; exact h9))
      obtain ⟨AL, ML, CL, esL, hdL, -⟩ := PL20.out.rg
      have KL := Lib.hid (fun w' (h : Gr y20 w') => (hdL.below h).l_)
      have KSL := Lib.hid (fun w' (h : Gr y20 w') => (hdL.below h).ks)
      have HLA := Lib.hid (show rg1.l.length ≤ 1000 by have := HIV.out.le; omega)
      have HLF := Lib.hid (show (forL rg1 p).length ≤ 1000 by have h1 : (forL rg1 p).length ≤ rg1.l.length := List.length_filter_le _ _; have := HIV.out.le; omega)
      have HMW := Lib.hid (show M ≤ y20.heap.size by have := PL20.out.mr; have := PL20.out.lt; omega)
      have HP3 := Lib.hid (show [q15, q19, q23].map Ke.val = [(sendP rg1 p id).1, (getsP rg1 p id).1, (getP rg1 x.num).1] by simp [VQ15.out, VQ19.out, VQ23.out])
      have HR3 := Lib.hid (show [q17, q21, q25].map Ke.val = [(sendP rg1 p id).1, (getsP rg1 p id).1, (getP rg1 x.num).1] by simp [VQ17.out, VQ21.out, VQ25.out])
      obtain ⟨L3, hL3⟩ : ∃ l, l = [(sendP rg1 p id).1, (getsP rg1 p id).1, (getP rg1 x.num).1] := ⟨_, rfl⟩
      rw [← hL3] at HP3 HR3
      obtain ⟨LF, hLF⟩ : ∃ l, l = forL rg1 p := ⟨_, rfl⟩
      rw [← hLF] at HLF FRC RFC
      obtain ⟨LA, hLA⟩ : ∃ l, l = rg1.l := ⟨_, rfl⟩
      rw [← hLA] at HLA ALC KSL
      generalize (sendP rg1 p id).2 = ea at *
      generalize (getsP rg1 p id).2 = eb at *
      generalize (getP rg1 x.num).2 = ec at *
      clear hdL hL3 hLF hLA
      refine with_act fun a0 ha0 => ?_
      have hl : plT.length = a0.tmps.size := by rw [ha0]; rfl
      have k7 : a0.tmps[7]?.getD undef = .pointer (some ⟨t, 0, none⟩) := by rw [ha0]; rfl
      have k8 : a0.tmps[8]?.getD undef = .pointer (some ⟨rx, 0, none⟩) := by rw [ha0]; rfl
      have k4 : a0.tmps[4]?.getD undef = .pointer (some ⟨bx, 0, none⟩) := by rw [ha0]; rfl
      have k16 : a0.tmps[16]?.getD undef = .int .i64 ea := by rw [ha0]; rfl
      have k18 : a0.tmps[18]?.getD undef = .int .i64 ea := by rw [ha0]; rfl
      have k20 : a0.tmps[20]?.getD undef = .int .i64 eb := by rw [ha0]; rfl
      have k22 : a0.tmps[22]?.getD undef = .int .i64 eb := by rw [ha0]; rfl
      have k24 : a0.tmps[24]?.getD undef = .int .i64 ec := by rw [ha0]; rfl
      have k26 : a0.tmps[26]?.getD undef = .int .i64 ec := by rw [ha0]; rfl
      have k15 : a0.tmps[15]?.getD undef = .pointer (some ⟨g15, 0, none⟩) := by rw [ha0]; rfl
      have k17 : a0.tmps[17]?.getD undef = .pointer (some ⟨g17, 0, none⟩) := by rw [ha0]; rfl
      have k19 : a0.tmps[19]?.getD undef = .pointer (some ⟨g19, 0, none⟩) := by rw [ha0]; rfl
      have k21 : a0.tmps[21]?.getD undef = .pointer (some ⟨g21, 0, none⟩) := by rw [ha0]; rfl
      have k23 : a0.tmps[23]?.getD undef = .pointer (some ⟨g23, 0, none⟩) := by rw [ha0]; rfl
      have k25 : a0.tmps[25]?.getD undef = .pointer (some ⟨g25, 0, none⟩) := by rw [ha0]; rfl
      refine wp_region_vals (by kernel_rfl) plT (by kernel_rfl) (by kernel_rfl) hl (fun i => a0.tmps[i + 117]?.getD undef) (by rw [ha0]; rfl) (Gr y20) (plV t rx bx g15 g17 g19 g21 g23 g25 CP AL ML CL q15 q17 q19 q21 q23 q25 LA LF L3 ea eb ec) (show Gr _ _ from (Below.refl _ _).drew) (plV.keep _ _ _ _ _ _ _ _ _ _ _ _ _ _ _ _ _ _ _ _ _ _ _ _ _) ⟨?_, ?_, ?_, ?_, ?_, ?_, ?_, ?_, ?_, ?_, ?_, ?_, ?_, ?_, ?_, ?_, ?_, ?_, ?_, ?_, ?_, ?_, ?_, ?_, ?_, ?_, ?_, ?_, ?_, ?_, ?_, ?_, ?_, ?_, ?_, ?_, ?_, ?_, ?_, ?_, ?_, ?_, ?_, ?_, ?_, trivial⟩ ?_
      · refine step_plain [] (by kernel_rfl) rfl fun us w' hG hV => ?_
        have o7 := (frame_old2 (us := us) (a := a0) (show (plT[7]?).join = none from rfl)).trans k7
        generalize frame plT a0 us = fr at *
        exact val_ok (v := .pointer (some ⟨t, 0, none⟩)) (w' := w') (by go_simp) hG (Below.refl _ _) rfl
      · refine step_plain [0] (by kernel_rfl) rfl fun us w' hG hV => ?_
        have e0 : us 0 = .pointer (some ⟨t, 0, none⟩) := hV 0 (by simp)
        have v0 := (frame_at2 (us := us) hl (show (plT[117]?).join = some 0 from rfl)).trans e0
        generalize frame plT a0 us = fr at *
        exact call_ok (f := 23) (args := #[.pointer (some ⟨t, 0, none⟩)]) (by go_simp) ((ALC.out w' hG).mono fun e w'' ⟨A', n', c', es', h1, h2, h3, h4, h5, h6, h7⟩ => ⟨_, h1, hG.below h7, h7, A', n', c', es', rfl, tell_ks h2 h3 h4 h5 (fun q hq => (h6 q hq).1) HLA.out⟩)
      · refine step_plain [1] (by kernel_rfl) rfl fun us w' hG hV => ?_
        obtain ⟨A1, n1, c1, es1, e1, P1⟩ := (show ∃ A' n' c' es', us 1 = .slice A' n' c' ∧ KsP w' A' n' c' es' LA from hV 1 (by simp))
        have v1 := (frame_at2 (us := us) hl (show (plT[118]?).join = some 1 from rfl)).trans e1
        generalize frame plT a0 us = fr at *
        exact call_ok (f := 22) (args := #[.slice A1 n1 c1]) (by go_simp) ((ours_ks P1).mono fun e w'' ⟨A', n', c', h1, h2, h3⟩ => ⟨_, h1, hG.below h3, h3, A', n', c', es1, rfl, h2⟩)
      · refine step_plain [] (by kernel_rfl) rfl fun us w' hG hV => ?_
        have o8 := (frame_old2 (us := us) (a := a0) (show (plT[8]?).join = none from rfl)).trans k8
        generalize frame plT a0 us = fr at *
        exact val_ok (v := .pointer (some ⟨rx, 1, none⟩)) (w' := w') (by go_simp) hG (Below.refl _ _) rfl
      · refine step_plain [3] (by kernel_rfl) rfl fun us w' hG hV => ?_
        have e3 : us 3 = .pointer (some ⟨rx, 1, none⟩) := hV 3 (by simp)
        have v3 := (frame_at2 (us := us) hl (show (plT[120]?).join = some 3 from rfl)).trans e3
        have hc := KL.out w' hG
        generalize frame plT a0 us = fr at *
        exact val_ok (v := .slice AL ML CL) (w' := w') (by go_simp) hG (Below.refl _ _) rfl
      · refine step_plain [2, 4] (by kernel_rfl) rfl fun us w' hG hV => ?_
        obtain ⟨A2, n2, c2, es2, e2, P2⟩ := (show ∃ A' n' c' es', us 2 = .slice A' n' c' ∧ KsP w' A' n' c' es' LA from hV 2 (by simp))
        have v2 := (frame_at2 (us := us) hl (show (plT[119]?).join = some 2 from rfl)).trans e2
        have e4 : us 4 = .slice AL ML CL := hV 4 (by simp)
        have v4 := (frame_at2 (us := us) hl (show (plT[121]?).join = some 4 from rfl)).trans e4
        generalize frame plT a0 us = fr at *
        exact call_ok (f := 21) (args := #[.slice A2 n2 c2, .slice AL ML CL]) (by go_simp) ((same_ks P2 (KSL.out w' hG)).mono fun e w'' h => ⟨_, h.1, hG.below h.2, h.2, rfl⟩)
      · refine step_plain [5] (by kernel_rfl) rfl fun us w' hG hV => ?_
        have e5 : us 5 = .bool true := hV 5 (by simp)
        have v5 := (frame_at2 (us := us) hl (show (plT[122]?).join = some 5 from rfl)).trans e5
        generalize frame plT a0 us = fr at *
        exact val_ok (v := .bool false) (w' := w') (by go_simp) hG (Below.refl _ _) rfl
      · refine step_plain [6] (by kernel_rfl) rfl fun us w' hG hV => ?_
        have e6 : us 6 = .bool false := hV 6 (by simp)
        have v6 := (frame_at2 (us := us) hl (show (plT[123]?).join = some 6 from rfl)).trans e6
        generalize frame plT a0 us = fr at *
        exact val_ok (v := .bool false) (w' := w') (by go_simp) hG (Below.refl _ _) rfl
      · refine step_guard [7] (by kernel_rfl) (j := 7) (t := 124) (b := false) rfl (by simp) rfl hl rfl (fun v w h => h) fun us w' hG hV => ?_
        have o7 := (frame_old2 (us := us) (a := a0) (show (plT[7]?).join = none from rfl)).trans k7
        generalize frame plT a0 us = fr at *
        exact val_ok (v := .pointer (some ⟨t, 0, none⟩)) (w' := w') (by go_simp) hG (Below.refl _ _) rfl
      · refine step_guard [7] (by kernel_rfl) (j := 7) (t := 124) (b := false) rfl (by simp) rfl hl rfl (fun v w h => h) fun us w' hG hV => ?_
        have o4 := (frame_old2 (us := us) (a := a0) (show (plT[4]?).join = none from rfl)).trans k4
        have hg1 := (KP.out w' hG)
        generalize frame plT a0 us = fr at *
        exact load_ok 30 4 rfl (bx) o4 _ _ (0, 0) _ hg1 Try.underlying30 rfl IP.out hG rfl
      · refine step_guard [7, 8, 9] (by kernel_rfl) (j := 7) (t := 124) (b := false) rfl (by simp) rfl hl rfl (fun v w h => h) fun us w' hG hV => ?_
        have e8 : us 8 = .pointer (some ⟨t, 0, none⟩) := hV 8 (by simp)
        have v8 := (frame_at2 (us := us) hl (show (plT[125]?).join = some 8 from rfl)).trans e8
        have e9 : us 9 = .agg CP := hV 9 (by simp)
        have v9 := (frame_at2 (us := us) hl (show (plT[126]?).join = some 9 from rfl)).trans e9
        generalize frame plT a0 us = fr at *
        exact call_ok (f := 24) (args := #[.pointer (some ⟨t, 0, none⟩), .agg CP]) (by go_simp) ((FRC.out w' hG).mono fun e w'' ⟨A', n', c', es', h1, h2, h3, h4, h5, h6, h7⟩ => ⟨_, h1, hG.below h7, h7, A', n', c', es', rfl, tell_ks h2 h3 h4 h5 (fun q hq => (h6 q hq).1) HLF.out⟩)
      · refine step_guard [7, 10] (by kernel_rfl) (j := 7) (t := 124) (b := false) rfl (by simp) rfl hl rfl (fun v w h => h) fun us w' hG hV => ?_
        obtain ⟨A10, n10, c10, es10, e10, P10⟩ := (show ∃ A' n' c' es', us 10 = .slice A' n' c' ∧ KsP w' A' n' c' es' LF from hV 10 (by simp))
        have v10 := (frame_at2 (us := us) hl (show (plT[127]?).join = some 10 from rfl)).trans e10
        generalize frame plT a0 us = fr at *
        exact call_ok (f := 22) (args := #[.slice A10 n10 c10]) (by go_simp) ((ours_ks P10).mono fun e w'' ⟨A', n', c', h1, h2, h3⟩ => ⟨_, h1, hG.below h3, h3, A', n', c', es10, rfl, h2⟩)
      · refine step_guard [7] (by kernel_rfl) (j := 7) (t := 124) (b := false) rfl (by simp) rfl hl rfl (fun v w h => h) fun us w' hG hV => ?_
        have o4 := (frame_old2 (us := us) (a := a0) (show (plT[4]?).join = none from rfl)).trans k4
        have hg1 := (KP.out w' hG)
        generalize frame plT a0 us = fr at *
        exact load_ok 30 4 rfl (bx) o4 _ _ (0, 0) _ hg1 Try.underlying30 rfl IP.out hG rfl
      · refine step_guard [7, 12] (by kernel_rfl) (j := 7) (t := 124) (b := false) rfl (by simp) rfl hl rfl (fun v w h => h) fun us w' hG hV => ?_
        have e12 : us 12 = .agg CP := hV 12 (by simp)
        have v12 := (frame_at2 (us := us) hl (show (plT[129]?).join = some 12 from rfl)).trans e12
        have o8 := (frame_old2 (us := us) (a := a0) (show (plT[8]?).join = none from rfl)).trans k8
        generalize frame plT a0 us = fr at *
        exact call_ok (f := 25) (args := #[.pointer (some ⟨rx, 0, none⟩), .agg CP]) (by go_simp) ((RFC.out w' hG).mono fun e w'' ⟨A', n', c', es', h1, h2, h3, h4, h5, h6, h7⟩ => ⟨_, h1, hG.below h7, h7, A', n', c', es', rfl, own_ks h2 h3 h4 h5 (fun q hq => (h6 q hq).below (Below.refl _ _) (Nat.le_trans HMW.out (Nat.le_trans (Below.size hG) h7.size))) HLF.out⟩)
      · refine step_guard [7, 11, 13] (by kernel_rfl) (j := 7) (t := 124) (b := false) rfl (by simp) rfl hl rfl (fun v w h => h) fun us w' hG hV => ?_
        obtain ⟨A11, n11, c11, es11, e11, P11⟩ := (show ∃ A' n' c' es', us 11 = .slice A' n' c' ∧ KsP w' A' n' c' es' LF from hV 11 (by simp))
        have v11 := (frame_at2 (us := us) hl (show (plT[128]?).join = some 11 from rfl)).trans e11
        obtain ⟨A13, n13, c13, es13, e13, P13⟩ := (show ∃ A' n' c' es', us 13 = .slice A' n' c' ∧ KsP w' A' n' c' es' LF from hV 13 (by simp))
        have v13 := (frame_at2 (us := us) hl (show (plT[130]?).join = some 13 from rfl)).trans e13
        generalize frame plT a0 us = fr at *
        exact call_ok (f := 21) (args := #[.slice A11 n11 c11, .slice A13 n13 c13]) (by go_simp) ((same_ks P11 P13).mono fun e w'' h => ⟨_, h.1, hG.below h.2, h.2, rfl⟩)
      · refine step_guard [7, 14] (by kernel_rfl) (j := 7) (t := 124) (b := false) rfl (by simp) rfl hl rfl (fun v w h => h) fun us w' hG hV => ?_
        have e14 : us 14 = .bool true := hV 14 (by simp)
        have v14 := (frame_at2 (us := us) hl (show (plT[131]?).join = some 14 from rfl)).trans e14
        generalize frame plT a0 us = fr at *
        exact val_ok (v := .bool false) (w' := w') (by go_simp) hG (Below.refl _ _) rfl
      · refine step_plain [7, 15] (by kernel_rfl) rfl fun us w' hG hV => ?_
        have e7 : us 7 = .bool false := hV 7 (by simp)
        have v7 := (frame_at2 (us := us) hl (show (plT[124]?).join = some 7 from rfl)).trans e7
        have e15 : us 15 = .bool false := hV 15 (by simp)
        have v15 := (frame_at2 (us := us) hl (show (plT[132]?).join = some 15 from rfl)).trans e15
        generalize frame plT a0 us = fr at *
        exact val_ok (v := .bool false) (w' := w') (by go_simp) hG (Below.refl _ _) rfl
      · refine step_plain [16] (by kernel_rfl) rfl fun us w' hG hV => ?_
        have e16 : us 16 = .bool false := hV 16 (by simp)
        have v16 := (frame_at2 (us := us) hl (show (plT[133]?).join = some 16 from rfl)).trans e16
        generalize frame plT a0 us = fr at *
        exact val_ok (v := .bool false) (w' := w') (by go_simp) hG (Below.refl _ _) rfl
      · refine step_guard [17] (by kernel_rfl) (j := 17) (t := 134) (b := false) rfl (by simp) rfl hl rfl (fun v w h => h) fun us w' hG hV => ?_
        have o15 := (frame_old2 (us := us) (a := a0) (show (plT[15]?).join = none from rfl)).trans k15
        have hg1 := (RQ15.out w' hG)
        generalize frame plT a0 us = fr at *
        exact load_ok 49 15 rfl (g15) o15 _ _ (0, 0) _ hg1 Try.underlying49 rfl IQ15.out hG rfl
      · refine step_guard [17] (by kernel_rfl) (j := 17) (t := 134) (b := false) rfl (by simp) rfl hl rfl (fun v w h => h) fun us w' hG hV => ?_
        have o19 := (frame_old2 (us := us) (a := a0) (show (plT[19]?).join = none from rfl)).trans k19
        have hg1 := (RQ19.out w' hG)
        generalize frame plT a0 us = fr at *
        exact load_ok 49 19 rfl (g19) o19 _ _ (0, 0) _ hg1 Try.underlying49 rfl IQ19.out hG rfl
      · refine step_guard [17] (by kernel_rfl) (j := 17) (t := 134) (b := false) rfl (by simp) rfl hl rfl (fun v w h => h) fun us w' hG hV => ?_
        have o23 := (frame_old2 (us := us) (a := a0) (show (plT[23]?).join = none from rfl)).trans k23
        have hg1 := (RQ23.out w' hG)
        generalize frame plT a0 us = fr at *
        exact load_ok 49 23 rfl (g23) o23 _ _ (0, 0) _ hg1 Try.underlying49 rfl IQ23.out hG rfl
      · refine step_guard [17, 18, 19, 20] (by kernel_rfl) (j := 17) (t := 134) (b := false) rfl (by simp) rfl hl rfl (fun v w h => h) fun us w' hG hV => ?_
        have e18 : us 18 = .agg (Ke.V q15) := hV 18 (by simp)
        have v18 := (frame_at2 (us := us) hl (show (plT[135]?).join = some 18 from rfl)).trans e18
        have e19 : us 19 = .agg (Ke.V q19) := hV 19 (by simp)
        have v19 := (frame_at2 (us := us) hl (show (plT[136]?).join = some 19 from rfl)).trans e19
        have e20 : us 20 = .agg (Ke.V q23) := hV 20 (by simp)
        have v20 := (frame_at2 (us := us) hl (show (plT[137]?).join = some 20 from rfl)).trans e20
        generalize frame plT a0 us = fr at *
        exact lit3_J (R := fun v w'' => Gr y20 w'' ∧ Below w'.heap.size w' w'' ∧ plV t rx bx g15 g17 g19 g21 g23 g25 CP AL ML CL q15 q17 q19 q21 q23 q25 LA LF L3 ea eb ec 21 v w'') 135 136 137 rfl Try.underlying61 pk_infoK q15 q19 q23 v18 v19 v20 (Ke.L_len (KQ15.out _ hG)) (Ke.L_len (KQ19.out _ hG)) (Ke.L_len (KQ23.out _ hG)) ⟨hG.below (alloc_below _ _), alloc_below _ _, _, 3, 3, [q15, q19, q23], rfl, lit_ks (heap_alloc_new _ _) (KQ15.out _ (hG.below (alloc_below _ _))) (KQ19.out _ (hG.below (alloc_below _ _))) (KQ23.out _ (hG.below (alloc_below _ _))) HP3.out⟩
      · refine step_guard [17, 21] (by kernel_rfl) (j := 17) (t := 134) (b := false) rfl (by simp) rfl hl rfl (fun v w h => h) fun us w' hG hV => ?_
        obtain ⟨A21, n21, c21, es21, e21, P21⟩ := (show ∃ A' n' c' es', us 21 = .slice A' n' c' ∧ KsP w' A' n' c' es' L3 from hV 21 (by simp))
        have v21 := (frame_at2 (us := us) hl (show (plT[138]?).join = some 21 from rfl)).trans e21
        generalize frame plT a0 us = fr at *
        exact call_ok (f := 22) (args := #[.slice A21 n21 c21]) (by go_simp) ((ours_ks P21).mono fun e w'' ⟨A', n', c', h1, h2, h3⟩ => ⟨_, h1, hG.below h3, h3, A', n', c', es21, rfl, h2⟩)
      · refine step_guard [17] (by kernel_rfl) (j := 17) (t := 134) (b := false) rfl (by simp) rfl hl rfl (fun v w h => h) fun us w' hG hV => ?_
        have o17 := (frame_old2 (us := us) (a := a0) (show (plT[17]?).join = none from rfl)).trans k17
        have hg1 := (RQ17.out w' hG)
        generalize frame plT a0 us = fr at *
        exact load_ok 41 17 rfl (g17) o17 _ _ (0, 0) _ hg1 Try.underlying41 rfl IQ17.out hG rfl
      · refine step_guard [17] (by kernel_rfl) (j := 17) (t := 134) (b := false) rfl (by simp) rfl hl rfl (fun v w h => h) fun us w' hG hV => ?_
        have o21 := (frame_old2 (us := us) (a := a0) (show (plT[21]?).join = none from rfl)).trans k21
        have hg1 := (RQ21.out w' hG)
        generalize frame plT a0 us = fr at *
        exact load_ok 41 21 rfl (g21) o21 _ _ (0, 0) _ hg1 Try.underlying41 rfl IQ21.out hG rfl
      · refine step_guard [17] (by kernel_rfl) (j := 17) (t := 134) (b := false) rfl (by simp) rfl hl rfl (fun v w h => h) fun us w' hG hV => ?_
        have o25 := (frame_old2 (us := us) (a := a0) (show (plT[25]?).join = none from rfl)).trans k25
        have hg1 := (RQ25.out w' hG)
        generalize frame plT a0 us = fr at *
        exact load_ok 41 25 rfl (g25) o25 _ _ (0, 0) _ hg1 Try.underlying41 rfl IQ25.out hG rfl
      · refine step_guard [17, 23, 24, 25] (by kernel_rfl) (j := 17) (t := 134) (b := false) rfl (by simp) rfl hl rfl (fun v w h => h) fun us w' hG hV => ?_
        have e23 : us 23 = .agg (Ke.V q17) := hV 23 (by simp)
        have v23 := (frame_at2 (us := us) hl (show (plT[140]?).join = some 23 from rfl)).trans e23
        have e24 : us 24 = .agg (Ke.V q21) := hV 24 (by simp)
        have v24 := (frame_at2 (us := us) hl (show (plT[141]?).join = some 24 from rfl)).trans e24
        have e25 : us 25 = .agg (Ke.V q25) := hV 25 (by simp)
        have v25 := (frame_at2 (us := us) hl (show (plT[142]?).join = some 25 from rfl)).trans e25
        generalize frame plT a0 us = fr at *
        exact lit3_J (R := fun v w'' => Gr y20 w'' ∧ Below w'.heap.size w' w'' ∧ plV t rx bx g15 g17 g19 g21 g23 g25 CP AL ML CL q15 q17 q19 q21 q23 q25 LA LF L3 ea eb ec 26 v w'') 140 141 142 rfl Try.underlying33 rk_infoK q17 q21 q25 v23 v24 v25 (Ke.L_len (KQ17.out _ hG)) (Ke.L_len (KQ21.out _ hG)) (Ke.L_len (KQ25.out _ hG)) ⟨hG.below (alloc_below _ _), alloc_below _ _, _, 3, 3, [q17, q21, q25], rfl, lit_ks (heap_alloc_new _ _) (KQ17.out _ (hG.below (alloc_below _ _))) (KQ21.out _ (hG.below (alloc_below _ _))) (KQ25.out _ (hG.below (alloc_below _ _))) HR3.out⟩
      · refine step_guard [17, 22, 26] (by kernel_rfl) (j := 17) (t := 134) (b := false) rfl (by simp) rfl hl rfl (fun v w h => h) fun us w' hG hV => ?_
        obtain ⟨A22, n22, c22, es22, e22, P22⟩ := (show ∃ A' n' c' es', us 22 = .slice A' n' c' ∧ KsP w' A' n' c' es' L3 from hV 22 (by simp))
        have v22 := (frame_at2 (us := us) hl (show (plT[139]?).join = some 22 from rfl)).trans e22
        obtain ⟨A26, n26, c26, es26, e26, P26⟩ := (show ∃ A' n' c' es', us 26 = .slice A' n' c' ∧ KsP w' A' n' c' es' L3 from hV 26 (by simp))
        have v26 := (frame_at2 (us := us) hl (show (plT[143]?).join = some 26 from rfl)).trans e26
        generalize frame plT a0 us = fr at *
        exact call_ok (f := 21) (args := #[.slice A22 n22 c22, .slice A26 n26 c26]) (by go_simp) ((same_ks P22 P26).mono fun e w'' h => ⟨_, h.1, hG.below h.2, h.2, rfl⟩)
      · refine step_guard [17, 27] (by kernel_rfl) (j := 17) (t := 134) (b := false) rfl (by simp) rfl hl rfl (fun v w h => h) fun us w' hG hV => ?_
        have e27 : us 27 = .bool true := hV 27 (by simp)
        have v27 := (frame_at2 (us := us) hl (show (plT[144]?).join = some 27 from rfl)).trans e27
        generalize frame plT a0 us = fr at *
        exact val_ok (v := .bool false) (w' := w') (by go_simp) hG (Below.refl _ _) rfl
      · refine step_plain [17, 28] (by kernel_rfl) rfl fun us w' hG hV => ?_
        have e17 : us 17 = .bool false := hV 17 (by simp)
        have v17 := (frame_at2 (us := us) hl (show (plT[134]?).join = some 17 from rfl)).trans e17
        have e28 : us 28 = .bool false := hV 28 (by simp)
        have v28 := (frame_at2 (us := us) hl (show (plT[145]?).join = some 28 from rfl)).trans e28
        generalize frame plT a0 us = fr at *
        exact val_ok (v := .bool false) (w' := w') (by go_simp) hG (Below.refl _ _) rfl
      · refine step_plain [29] (by kernel_rfl) rfl fun us w' hG hV => ?_
        have e29 : us 29 = .bool false := hV 29 (by simp)
        have v29 := (frame_at2 (us := us) hl (show (plT[146]?).join = some 29 from rfl)).trans e29
        generalize frame plT a0 us = fr at *
        exact val_ok (v := .bool false) (w' := w') (by go_simp) hG (Below.refl _ _) rfl
      · refine step_guard [30] (by kernel_rfl) (j := 30) (t := 147) (b := false) rfl (by simp) rfl hl rfl (fun v w h => h) fun us w' hG hV => ?_
        have o16 := (frame_old2 (us := us) (a := a0) (show (plT[16]?).join = none from rfl)).trans k16
        generalize frame plT a0 us = fr at *
        exact val_ok (v := .int .i64 ea) (w' := w') (by go_simp) hG (Below.refl _ _) rfl
      · refine step_guard [30] (by kernel_rfl) (j := 30) (t := 147) (b := false) rfl (by simp) rfl hl rfl (fun v w h => h) fun us w' hG hV => ?_
        have o18 := (frame_old2 (us := us) (a := a0) (show (plT[18]?).join = none from rfl)).trans k18
        generalize frame plT a0 us = fr at *
        exact val_ok (v := .int .i64 ea) (w' := w') (by go_simp) hG (Below.refl _ _) rfl
      · refine step_guard [30, 31, 32] (by kernel_rfl) (j := 30) (t := 147) (b := false) rfl (by simp) rfl hl rfl (fun v w h => h) fun us w' hG hV => ?_
        have e31 : us 31 = .int .i64 ea := hV 31 (by simp)
        have v31 := (frame_at2 (us := us) hl (show (plT[148]?).join = some 31 from rfl)).trans e31
        have e32 : us 32 = .int .i64 ea := hV 32 (by simp)
        have v32 := (frame_at2 (us := us) hl (show (plT[149]?).join = some 32 from rfl)).trans e32
        generalize frame plT a0 us = fr at *
        exact val_ok (v := .bool false) (w' := w') (by go_simp) hG (Below.refl _ _) rfl
      · refine step_plain [30, 33] (by kernel_rfl) rfl fun us w' hG hV => ?_
        have e30 : us 30 = .bool false := hV 30 (by simp)
        have v30 := (frame_at2 (us := us) hl (show (plT[147]?).join = some 30 from rfl)).trans e30
        have e33 : us 33 = .bool false := hV 33 (by simp)
        have v33 := (frame_at2 (us := us) hl (show (plT[150]?).join = some 33 from rfl)).trans e33
        generalize frame plT a0 us = fr at *
        exact val_ok (v := .bool false) (w' := w') (by go_simp) hG (Below.refl _ _) rfl
      · refine step_plain [34] (by kernel_rfl) rfl fun us w' hG hV => ?_
        have e34 : us 34 = .bool false := hV 34 (by simp)
        have v34 := (frame_at2 (us := us) hl (show (plT[151]?).join = some 34 from rfl)).trans e34
        generalize frame plT a0 us = fr at *
        exact val_ok (v := .bool false) (w' := w') (by go_simp) hG (Below.refl _ _) rfl
      · refine step_guard [35] (by kernel_rfl) (j := 35) (t := 152) (b := false) rfl (by simp) rfl hl rfl (fun v w h => h) fun us w' hG hV => ?_
        have o20 := (frame_old2 (us := us) (a := a0) (show (plT[20]?).join = none from rfl)).trans k20
        generalize frame plT a0 us = fr at *
        exact val_ok (v := .int .i64 eb) (w' := w') (by go_simp) hG (Below.refl _ _) rfl
      · refine step_guard [35] (by kernel_rfl) (j := 35) (t := 152) (b := false) rfl (by simp) rfl hl rfl (fun v w h => h) fun us w' hG hV => ?_
        have o22 := (frame_old2 (us := us) (a := a0) (show (plT[22]?).join = none from rfl)).trans k22
        generalize frame plT a0 us = fr at *
        exact val_ok (v := .int .i64 eb) (w' := w') (by go_simp) hG (Below.refl _ _) rfl
      · refine step_guard [35, 36, 37] (by kernel_rfl) (j := 35) (t := 152) (b := false) rfl (by simp) rfl hl rfl (fun v w h => h) fun us w' hG hV => ?_
        have e36 : us 36 = .int .i64 eb := hV 36 (by simp)
        have v36 := (frame_at2 (us := us) hl (show (plT[153]?).join = some 36 from rfl)).trans e36
        have e37 : us 37 = .int .i64 eb := hV 37 (by simp)
        have v37 := (frame_at2 (us := us) hl (show (plT[154]?).join = some 37 from rfl)).trans e37
        generalize frame plT a0 us = fr at *
        exact val_ok (v := .bool false) (w' := w') (by go_simp) hG (Below.refl _ _) rfl
      · refine step_plain [35, 38] (by kernel_rfl) rfl fun us w' hG hV => ?_
        have e35 : us 35 = .bool false := hV 35 (by simp)
        have v35 := (frame_at2 (us := us) hl (show (plT[152]?).join = some 35 from rfl)).trans e35
        have e38 : us 38 = .bool false := hV 38 (by simp)
        have v38 := (frame_at2 (us := us) hl (show (plT[155]?).join = some 38 from rfl)).trans e38
        generalize frame plT a0 us = fr at *
        exact val_ok (v := .bool false) (w' := w') (by go_simp) hG (Below.refl _ _) rfl
      · refine step_plain [39] (by kernel_rfl) rfl fun us w' hG hV => ?_
        have e39 : us 39 = .bool false := hV 39 (by simp)
        have v39 := (frame_at2 (us := us) hl (show (plT[156]?).join = some 39 from rfl)).trans e39
        generalize frame plT a0 us = fr at *
        exact val_ok (v := .bool false) (w' := w') (by go_simp) hG (Below.refl _ _) rfl
      · refine step_guard [40] (by kernel_rfl) (j := 40) (t := 157) (b := false) rfl (by simp) rfl hl rfl (fun v w h => h) fun us w' hG hV => ?_
        have o24 := (frame_old2 (us := us) (a := a0) (show (plT[24]?).join = none from rfl)).trans k24
        generalize frame plT a0 us = fr at *
        exact val_ok (v := .int .i64 ec) (w' := w') (by go_simp) hG (Below.refl _ _) rfl
      · refine step_guard [40] (by kernel_rfl) (j := 40) (t := 157) (b := false) rfl (by simp) rfl hl rfl (fun v w h => h) fun us w' hG hV => ?_
        have o26 := (frame_old2 (us := us) (a := a0) (show (plT[26]?).join = none from rfl)).trans k26
        generalize frame plT a0 us = fr at *
        exact val_ok (v := .int .i64 ec) (w' := w') (by go_simp) hG (Below.refl _ _) rfl
      · refine step_guard [40, 41, 42] (by kernel_rfl) (j := 40) (t := 157) (b := false) rfl (by simp) rfl hl rfl (fun v w h => h) fun us w' hG hV => ?_
        have e41 : us 41 = .int .i64 ec := hV 41 (by simp)
        have v41 := (frame_at2 (us := us) hl (show (plT[158]?).join = some 41 from rfl)).trans e41
        have e42 : us 42 = .int .i64 ec := hV 42 (by simp)
        have v42 := (frame_at2 (us := us) hl (show (plT[159]?).join = some 42 from rfl)).trans e42
        generalize frame plT a0 us = fr at *
        exact val_ok (v := .bool false) (w' := w') (by go_simp) hG (Below.refl _ _) rfl
      · refine step_plain [40, 43] (by kernel_rfl) rfl fun us w' hG hV => ?_
        have e40 : us 40 = .bool false := hV 40 (by simp)
        have v40 := (frame_at2 (us := us) hl (show (plT[157]?).join = some 40 from rfl)).trans e40
        have e43 : us 43 = .bool false := hV 43 (by simp)
        have v43 := (frame_at2 (us := us) hl (show (plT[160]?).join = some 43 from rfl)).trans e43
        generalize frame plT a0 us = fr at *
        exact val_ok (v := .bool false) (w' := w') (by go_simp) hG (Below.refl _ _) rfl
      · intro us yz hG hV
        have e44 : us 44 = .bool false := hV 44 (by decide)
        subst ha0
        simp only [frame, plT, fill]
        rw [e44]
        have HG := Lib.hid (show Below y20.heap.size y20 yz from hG)
        clear hV hl hG e44
        generalize us 0 = u_0
        generalize us 1 = u_1
        generalize us 2 = u_2
        generalize us 3 = u_3
        generalize us 4 = u_4
        generalize us 5 = u_5
        generalize us 6 = u_6
        generalize us 7 = u_7
        generalize us 8 = u_8
        generalize us 9 = u_9
        generalize us 10 = u_10
        generalize us 11 = u_11
        generalize us 12 = u_12
        generalize us 13 = u_13
        generalize us 14 = u_14
        generalize us 15 = u_15
        generalize us 16 = u_16
        generalize us 17 = u_17
        generalize us 18 = u_18
        generalize us 19 = u_19
        generalize us 20 = u_20
        generalize us 21 = u_21
        generalize us 22 = u_22
        generalize us 23 = u_23
        generalize us 24 = u_24
        generalize us 25 = u_25
        generalize us 26 = u_26
        generalize us 27 = u_27
        generalize us 28 = u_28
        generalize us 29 = u_29
        generalize us 30 = u_30
        generalize us 31 = u_31
        generalize us 32 = u_32
        generalize us 33 = u_33
        generalize us 34 = u_34
        generalize us 35 = u_35
        generalize us 36 = u_36
        generalize us 37 = u_37
        generalize us 38 = u_38
        generalize us 39 = u_39
        generalize us 40 = u_40
        generalize us 41 = u_41
        generalize us 42 = u_42
        generalize us 43 = u_43
        go_wp2_with fail
        go_roundw
        case rel => exact ⟨i + 1, S9, rg1, by simp, HI.out, HIV.out, (PL20.out.below FK.out HG.out), BL9.out.trans ((D20.out.trans (HG.out.mono D20.out.size)).mono BL9.out.size)⟩
        case measure => have := HM.out; have := HI.out; simp [intOf]; omega
    · rw [hdr] at cd
      go_upto_region 9 with fail
      clear cd
      refine with_act fun a0 ha0 => ?_
      have hl : djT.length = a0.tmps.size := by rw [ha0]; rfl
      have k7 : a0.tmps[7]?.getD undef = .pointer (some ⟨t, 0, none⟩) := by rw [ha0]; rfl
      have k8 : a0.tmps[8]?.getD undef = .pointer (some ⟨rx, 0, none⟩) := by rw [ha0]; rfl
      have k10 : a0.tmps[10]?.getD undef = .pointer (some ⟨g10, 0, none⟩) := by rw [ha0]; rfl
      refine wp_region_J (by kernel_rfl) djT (by kernel_rfl) (by kernel_rfl) hl (fun i => a0.tmps[i + 48]?.getD undef) (by rw [ha0]; rfl) (DJ Tb M rx t y6 S0 (djV t g10 x.num (dropErr rg x.num)) rg (dropR rg x.num)) ⟨⟨S0, PL6.out.below FK.out (Below.refl _ _).drew, Ex.below (Below.refl _ _).drew⟩, fun i h => by cases h⟩ ⟨?_, ?_, ?_, ?_, ?_, ?_, ?_, ?_, trivial⟩ ?_
      · refine stepJ [] (by kernel_rfl) rfl fun mm us w' hJ hmi hm => ?_
        have o7 := (frame_old2 (us := us) (a := a0) (show (djT[7]?).join = none from rfl)).trans k7
        obtain ⟨⟨S, P, E⟩, HV⟩ := hJ
        generalize frame djT a0 us = fr at *
        exact val_J (R := fun v w'' => DJ Tb M rx t y6 S0 (djV t g10 x.num (dropErr rg x.num)) rg (dropR rg x.num) (upd mm 0 true) (upd us 0 v) w'') (v := .pointer (some ⟨t, 0, none⟩)) (w' := w') (by go_simp) ⟨⟨S, P, E⟩, dj_val HV rfl⟩
      · refine stepJ [] (by kernel_rfl) rfl fun mm us w' hJ hmi hm => ?_
        have o10 := (frame_old2 (us := us) (a := a0) (show (djT[10]?).join = none from rfl)).trans k10
        obtain ⟨⟨S, P, E⟩, HV⟩ := hJ
        generalize frame djT a0 us = fr at *
        exact val_J (R := fun v w'' => DJ Tb M rx t y6 S0 (djV t g10 x.num (dropErr rg x.num)) rg (dropR rg x.num) (upd mm 1 true) (upd us 1 v) w'') (v := .pointer (some ⟨g10, 1, none⟩)) (w' := w') (by go_simp) ⟨⟨S, P, E⟩, dj_val HV rfl⟩
      · refine stepJ [1] (by kernel_rfl) rfl fun mm us w' hJ hmi hm => ?_
        have e1 : us 1 = .pointer (some ⟨g10, 1, none⟩) := hJ.2 1 (hm 1 (by simp))
        have v1 := (frame_at2 (us := us) hl (show (djT[49]?).join = some 1 from rfl)).trans e1
        obtain ⟨⟨S, P, E⟩, HV⟩ := hJ
        have hc : w'.cell? ⟨g10, 1, none⟩ = some (.int .i64 x.num) := by rw [cell_of_row w' g10 1 _ _ (0, 0) (E.row R6.out N6.out.1 N6.out.2)]; rfl
        generalize frame djT a0 us = fr at *
        exact val_J (R := fun v w'' => DJ Tb M rx t y6 S0 (djV t g10 x.num (dropErr rg x.num)) rg (dropR rg x.num) (upd mm 2 true) (upd us 2 v) w'') (v := .int .i64 x.num) (w' := w') (by go_simp) ⟨⟨S, P, E⟩, dj_val HV rfl⟩
      · refine stepJ [0, 2] (by kernel_rfl) rfl fun mm us w' hJ hmi hm => ?_
        have e0 : us 0 = .pointer (some ⟨t, 0, none⟩) := hJ.2 0 (hm 0 (by simp))
        have v0 := (frame_at2 (us := us) hl (show (djT[48]?).join = some 0 from rfl)).trans e0
        have e2 : us 2 = .int .i64 x.num := hJ.2 2 (hm 2 (by simp))
        have v2 := (frame_at2 (us := us) hl (show (djT[50]?).join = some 2 from rfl)).trans e2
        obtain ⟨⟨S, P, E⟩, HV⟩ := hJ
        rw [hmi] at P
        generalize frame djT a0 us = fr at *
        exact call_J (R := fun v w'' => DJ Tb M rx t y6 S0 (djV t g10 x.num (dropErr rg x.num)) rg (dropR rg x.num) (upd mm 3 true) (upd us 3 v) w'') (f := 10) (args := #[.pointer (some ⟨t, 0, none⟩), .int .i64 x.num]) (by go_simp) ((DRC.out w' S t rg x.num P.tb HIR.out).mono fun e w'' ⟨he, S', hT, hS, hF⟩ => ⟨_, he, ⟨S', (P.prog FK.out hT hS hF).1, E.trans (P.prog FK.out hT hS hF).2⟩, dj_val HV rfl⟩)
      · refine stepJ [] (by kernel_rfl) rfl fun mm us w' hJ hmi hm => ?_
        have o10 := (frame_old2 (us := us) (a := a0) (show (djT[10]?).join = none from rfl)).trans k10
        obtain ⟨⟨S, P, E⟩, HV⟩ := hJ
        generalize frame djT a0 us = fr at *
        exact val_J (R := fun v w'' => DJ Tb M rx t y6 S0 (djV t g10 x.num (dropErr rg x.num)) rg (dropR rg x.num) (upd mm 4 true) (upd us 4 v) w'') (v := .pointer (some ⟨g10, 1, none⟩)) (w' := w') (by go_simp) ⟨⟨S, P, E⟩, dj_val HV rfl⟩
      · refine stepJ [4] (by kernel_rfl) rfl fun mm us w' hJ hmi hm => ?_
        have e4 : us 4 = .pointer (some ⟨g10, 1, none⟩) := hJ.2 4 (hm 4 (by simp))
        have v4 := (frame_at2 (us := us) hl (show (djT[52]?).join = some 4 from rfl)).trans e4
        obtain ⟨⟨S, P, E⟩, HV⟩ := hJ
        have hc : w'.cell? ⟨g10, 1, none⟩ = some (.int .i64 x.num) := by rw [cell_of_row w' g10 1 _ _ (0, 0) (E.row R6.out N6.out.1 N6.out.2)]; rfl
        generalize frame djT a0 us = fr at *
        exact val_J (R := fun v w'' => DJ Tb M rx t y6 S0 (djV t g10 x.num (dropErr rg x.num)) rg (dropR rg x.num) (upd mm 5 true) (upd us 5 v) w'') (v := .int .i64 x.num) (w' := w') (by go_simp) ⟨⟨S, P, E⟩, dj_val HV rfl⟩
      · refine stepJ [5] (by kernel_rfl) rfl fun mm us w' hJ hmi hm => ?_
        have e5 : us 5 = .int .i64 x.num := hJ.2 5 (hm 5 (by simp))
        have v5 := (frame_at2 (us := us) hl (show (djT[53]?).join = some 5 from rfl)).trans e5
        have o8 := (frame_old2 (us := us) (a := a0) (show (djT[8]?).join = none from rfl)).trans k8
        obtain ⟨⟨S, P, E⟩, HV⟩ := hJ
        rw [hmi] at P
        generalize frame djT a0 us = fr at *
        exact call_J (R := fun v w'' => DJ Tb M rx t y6 S0 (djV t g10 x.num (dropErr rg x.num)) rg (dropR rg x.num) (upd mm 6 true) (upd us 6 v) w'') (f := 11) (args := #[.pointer (some ⟨rx, 0, none⟩), .int .i64 x.num]) (by go_simp) ((rdrop_any w' rx M rg x.num (fun k => ¬ S k) (fun b hb hs => by have := LTK.out w' S t _ P.tb b hs; omega) P.rg).mono fun e w'' ⟨he, hr, hb⟩ => ⟨_, he, ⟨S, (P.doc FK.out hr hb).1, E.trans (P.doc FK.out hr hb).2⟩, dj_val HV rfl⟩)
      · refine stepJ [3, 6] (by kernel_rfl) rfl fun mm us w' hJ hmi hm => ?_
        have e3 : us 3 = .int .i64 (dropErr rg x.num) := hJ.2 3 (hm 3 (by simp))
        have v3 := (frame_at2 (us := us) hl (show (djT[51]?).join = some 3 from rfl)).trans e3
        have e6 : us 6 = .int .i64 (dropErr rg x.num) := hJ.2 6 (hm 6 (by simp))
        have v6 := (frame_at2 (us := us) hl (show (djT[54]?).join = some 6 from rfl)).trans e6
        obtain ⟨⟨S, P, E⟩, HV⟩ := hJ
        generalize frame djT a0 us = fr at *
        exact val_J (R := fun v w'' => DJ Tb M rx t y6 S0 (djV t g10 x.num (dropErr rg x.num)) rg (dropR rg x.num) (upd mm 7 true) (upd us 7 v) w'') (v := .bool false) (w' := w') (by go_simp) ⟨⟨S, P, E⟩, dj_val HV rfl⟩
      · intro mm us y14 hall hJ
        obtain ⟨⟨S9, P9, E9⟩, HV⟩ := hJ
        rw [hall 3 (by decide), hall 6 (by decide)] at P9
        have e7 : us 7 = .bool false := HV 7 (hall 7 (by decide))
        have PL9 := Lib.hid (show Pl Tb M rx t y14 S9 (dropR rg x.num) (dropR rg x.num) from P9)
        have BL9 := Lib.hid (show Below W.heap.size W y14 from BB6.out.trans (by have h9 := E9.to_below PL6.out; rw [HMW0.out] at h9; exact h9))
        have R9 := Lib.hid (E9.row R6.out N6.out.1 N6.out.2)
        have HIV := Lib.hid (HIR.out.drop x.num)
        subst ha0
        simp only [frame, djT, fill]
        rw [e7]
        clear hl k7 k8 k10 P9 E9 HV e7 hall PL6
        generalize us 0 = w_0
        generalize us 1 = w_1
        generalize us 2 = w_2
        generalize us 3 = w_3
        generalize us 4 = w_4
        generalize us 5 = w_5
        generalize us 6 = w_6
        generalize hrg1 : dropR rg x.num = rg1 at *
        clear hrg1
        go_upto_region 15 with fail
        have KP9 := Lib.hid (fun w' (h : Below y14.heap.size y14 w') => (show w'.heap[bx]? = some (.cells CP 30 (0, 0)) from ((BL9.out.trans (h.mono BL9.out.size)).block _ (lt_of_row R.out)).trans R.out))
        have KN9 := Lib.hid (fun w' (h : Below y14.heap.size y14 w') => (show w'.cell? ⟨g10, 1, none⟩ = some (.int .i64 x.num) from by rw [cell_of_row w' g10 1 _ _ (0, 0) ((h.block _ (lt_of_row R9.out)).trans R9.out)]; rfl))
        have PLK := Lib.hid (fun w' (h : Below y14.heap.size y14 w') => PL9.out.below FK.out h)
        have D14 := Lib.hid (Below.refl y14.heap.size y14)
        have KPr := Lib.hid (KP9.out y14 D14.out)
        have hzp := HZP.out
        go_upto_region 16 with (first
          | (refine wpList_load_row rfl 30 (.tmp 4) rfl bx rfl _ _ _ _ KPr.out Try.underlying30 rfl IP.out ?_)
          | (go_at_call 15; (with_reducible refine (SDC.out _ _ _ _ (PLK.out y14 D14.out).tb HIV.out).mono ?_); rintro e z15 ⟨q15, hke, hval, rfl, hb⟩
             have KZ15 := Lib.hid hke
             have VQ15 := Lib.hid hval
             have BZ15 := Lib.hid hb
             have IQ15 := Lib.hid (show (Try.prog.info? 49).map (·.size) = some q15.V.size by rw [Ke.V_size hke]; exact pk_info)
             have ZQ15 := Lib.hid (show ZV.size = q15.V.size by rw [ZSZ.out, Ke.V_size hke])
             have OQ15 := Lib.hid (show q15.V.all (·.oneCell') = true from kt_ones)
             clear hke hval hb)
          | (refine wpList_store_row rfl 49 (.tmp 15) (.tmp 83) rfl z15.heap.size q15.V rfl rfl _ _ (heap_alloc_new _ _) IQ15.out ZQ15.out OQ15.out ?_; rw [World.setRow_alloc_new]))
        clear hzp KPr
        obtain ⟨y15, hy15⟩ : ∃ y, y = z15.alloc (.cells q15.V 49) := ⟨_, rfl⟩
        obtain ⟨g15, hg15⟩ : ∃ g, g = z15.heap.size := ⟨_, rfl⟩
        rw [← hy15]
        rw [← hg15]
        have RQ15 := Lib.hid (show y15.heap[g15]? = some (.cells q15.V 49 (0, 0)) by rw [hy15, hg15]; exact heap_alloc_new _ _)
        have BA15 := Lib.hid (show Below z15.heap.size z15 y15 by rw [hy15]; exact alloc_below _ _)
        have BY15 := Lib.hid (show Below y14.heap.size y14 y15 from BZ15.out.trans (BA15.out.mono BZ15.out.size))
        have KY15 := Lib.hid (KZ15.out.below BA15.out BA15.out.size)
        have D15 := Lib.hid (show Below y14.heap.size y14 y15 from D14.out.trans (BY15.out.mono D14.out.size))
        clear hy15 hg15 KZ15 ZQ15 OQ15
        have KPr := Lib.hid (KP9.out y15 D15.out)
        have hzk := HZK.out
        go_upto_region 17 with (first
          | (refine wpList_load_row rfl 30 (.tmp 4) rfl bx rfl _ _ _ _ KPr.out Try.underlying30 rfl IP.out ?_)
          | (go_at_call 16; (with_reducible refine (RSD.out _ rx M rg1 (PLK.out y15 D15.out).rg.at_).mono ?_); rintro e z16 ⟨q17, hke, hval, rfl, hb⟩
             have KZ17 := Lib.hid (hke.below (Below.refl _ _) (show M ≤ z16.heap.size from by have h1 := (PLK.out y15 D15.out).mr; have h2 := (PLK.out y15 D15.out).lt; have h3 := hb.size; omega))
             have VQ17 := Lib.hid hval
             have BZ16 := Lib.hid hb
             have IQ17 := Lib.hid (show (Try.prog.info? 41).map (·.size) = some q17.V.size by rw [Ke.V_size hke]; exact rk_info)
             have ZQ17 := Lib.hid (show ZV.size = q17.V.size by rw [ZSZ.out, Ke.V_size hke])
             have OQ17 := Lib.hid (show q17.V.all (·.oneCell') = true from kt_ones)
             clear hke hval hb)
          | (refine wpList_store_row rfl 41 (.tmp 17) (.tmp 89) rfl z16.heap.size q17.V rfl rfl _ _ (heap_alloc_new _ _) IQ17.out ZQ17.out OQ17.out ?_; rw [World.setRow_alloc_new]))
        clear hzk KPr
        obtain ⟨y16, hy16⟩ : ∃ y, y = z16.alloc (.cells q17.V 41) := ⟨_, rfl⟩
        obtain ⟨g17, hg17⟩ : ∃ g, g = z16.heap.size := ⟨_, rfl⟩
        rw [← hy16]
        rw [← hg17]
        have RQ17 := Lib.hid (show y16.heap[g17]? = some (.cells q17.V 41 (0, 0)) by rw [hy16, hg17]; exact heap_alloc_new _ _)
        have BA16 := Lib.hid (show Below z16.heap.size z16 y16 by rw [hy16]; exact alloc_below _ _)
        have BY16 := Lib.hid (show Below y15.heap.size y15 y16 from BZ16.out.trans (BA16.out.mono BZ16.out.size))
        have KY17 := Lib.hid (KZ17.out.below BA16.out BA16.out.size)
        have D16 := Lib.hid (show Below y14.heap.size y14 y16 from D15.out.trans (BY16.out.mono D15.out.size))
        clear hy16 hg17 KZ17 ZQ17 OQ17
        have KPr := Lib.hid (KP9.out y16 D16.out)
        have hzp := HZP.out
        go_upto_region 18 with (first
          | (refine wpList_load_row rfl 30 (.tmp 4) rfl bx rfl _ _ _ _ KPr.out Try.underlying30 rfl IP.out ?_)
          | (go_at_call 17; (with_reducible refine (GTC.out _ _ _ _ (PLK.out y16 D16.out).tb HIV.out).mono ?_); rintro e z17 ⟨q19, hke, hval, rfl, hb⟩
             have KZ19 := Lib.hid hke
             have VQ19 := Lib.hid hval
             have BZ17 := Lib.hid hb
             have IQ19 := Lib.hid (show (Try.prog.info? 49).map (·.size) = some q19.V.size by rw [Ke.V_size hke]; exact pk_info)
             have ZQ19 := Lib.hid (show ZV.size = q19.V.size by rw [ZSZ.out, Ke.V_size hke])
             have OQ19 := Lib.hid (show q19.V.all (·.oneCell') = true from kt_ones)
             clear hke hval hb)
          | (refine wpList_store_row rfl 49 (.tmp 19) (.tmp 96) rfl z17.heap.size q19.V rfl rfl _ _ (heap_alloc_new _ _) IQ19.out ZQ19.out OQ19.out ?_; rw [World.setRow_alloc_new]))
        clear hzp KPr
        obtain ⟨y17, hy17⟩ : ∃ y, y = z17.alloc (.cells q19.V 49) := ⟨_, rfl⟩
        obtain ⟨g19, hg19⟩ : ∃ g, g = z17.heap.size := ⟨_, rfl⟩
        rw [← hy17]
        rw [← hg19]
        have RQ19 := Lib.hid (show y17.heap[g19]? = some (.cells q19.V 49 (0, 0)) by rw [hy17, hg19]; exact heap_alloc_new _ _)
        have BA17 := Lib.hid (show Below z17.heap.size z17 y17 by rw [hy17]; exact alloc_below _ _)
        have BY17 := Lib.hid (show Below y16.heap.size y16 y17 from BZ17.out.trans (BA17.out.mono BZ17.out.size))
        have KY19 := Lib.hid (KZ19.out.below BA17.out BA17.out.size)
        have D17 := Lib.hid (show Below y14.heap.size y14 y17 from D16.out.trans (BY17.out.mono D16.out.size))
        clear hy17 hg19 KZ19 ZQ19 OQ19
        have KPr := Lib.hid (KP9.out y17 D17.out)
        have hzk := HZK.out
        go_upto_region 19 with (first
          | (refine wpList_load_row rfl 30 (.tmp 4) rfl bx rfl _ _ _ _ KPr.out Try.underlying30 rfl IP.out ?_)
          | (go_at_call 18; (with_reducible refine (RGT.out _ rx M rg1 (PLK.out y17 D17.out).rg.at_).mono ?_); rintro e z18 ⟨q21, hke, hval, rfl, hb⟩
             have KZ21 := Lib.hid (hke.below (Below.refl _ _) (show M ≤ z18.heap.size from by have h1 := (PLK.out y17 D17.out).mr; have h2 := (PLK.out y17 D17.out).lt; have h3 := hb.size; omega))
             have VQ21 := Lib.hid hval
             have BZ18 := Lib.hid hb
             have IQ21 := Lib.hid (show (Try.prog.info? 41).map (·.size) = some q21.V.size by rw [Ke.V_size hke]; exact rk_info)
             have ZQ21 := Lib.hid (show ZV.size = q21.V.size by rw [ZSZ.out, Ke.V_size hke])
             have OQ21 := Lib.hid (show q21.V.all (·.oneCell') = true from kt_ones)
             clear hke hval hb)
          | (refine wpList_store_row rfl 41 (.tmp 21) (.tmp 102) rfl z18.heap.size q21.V rfl rfl _ _ (heap_alloc_new _ _) IQ21.out ZQ21.out OQ21.out ?_; rw [World.setRow_alloc_new]))
        clear hzk KPr
        obtain ⟨y18, hy18⟩ : ∃ y, y = z18.alloc (.cells q21.V 41) := ⟨_, rfl⟩
        obtain ⟨g21, hg21⟩ : ∃ g, g = z18.heap.size := ⟨_, rfl⟩
        rw [← hy18]
        rw [← hg21]
        have RQ21 := Lib.hid (show y18.heap[g21]? = some (.cells q21.V 41 (0, 0)) by rw [hy18, hg21]; exact heap_alloc_new _ _)
        have BA18 := Lib.hid (show Below z18.heap.size z18 y18 by rw [hy18]; exact alloc_below _ _)
        have BY18 := Lib.hid (show Below y17.heap.size y17 y18 from BZ18.out.trans (BA18.out.mono BZ18.out.size))
        have KY21 := Lib.hid (KZ21.out.below BA18.out BA18.out.size)
        have D18 := Lib.hid (show Below y14.heap.size y14 y18 from D17.out.trans (BY18.out.mono D17.out.size))
        clear hy18 hg21 KZ21 ZQ21 OQ21
        have cn := KN9.out y18 D18.out
        have hzp := HZP.out
        go_upto_region 20 with (first
          | (go_at_call 19; (with_reducible refine (GEC.out _ _ _ _ x.num (PLK.out y18 D18.out).tb HIV.out).mono ?_); rintro e z19 ⟨q23, hke, hval, rfl, hb⟩
             have KZ23 := Lib.hid hke
             have VQ23 := Lib.hid hval
             have BZ19 := Lib.hid hb
             have IQ23 := Lib.hid (show (Try.prog.info? 49).map (·.size) = some q23.V.size by rw [Ke.V_size hke]; exact pk_info)
             have ZQ23 := Lib.hid (show ZV.size = q23.V.size by rw [ZSZ.out, Ke.V_size hke])
             have OQ23 := Lib.hid (show q23.V.all (·.oneCell') = true from kt_ones)
             clear hke hval hb)
          | (refine wpList_store_row rfl 49 (.tmp 23) (.tmp 109) rfl z19.heap.size q23.V rfl rfl _ _ (heap_alloc_new _ _) IQ23.out ZQ23.out OQ23.out ?_; rw [World.setRow_alloc_new]))
        clear hzp
        obtain ⟨y19, hy19⟩ : ∃ y, y = z19.alloc (.cells q23.V 49) := ⟨_, rfl⟩
        obtain ⟨g23, hg23⟩ : ∃ g, g = z19.heap.size := ⟨_, rfl⟩
        rw [← hy19]
        rw [← hg23]
        have RQ23 := Lib.hid (show y19.heap[g23]? = some (.cells q23.V 49 (0, 0)) by rw [hy19, hg23]; exact heap_alloc_new _ _)
        have BA19 := Lib.hid (show Below z19.heap.size z19 y19 by rw [hy19]; exact alloc_below _ _)
        have BY19 := Lib.hid (show Below y18.heap.size y18 y19 from BZ19.out.trans (BA19.out.mono BZ19.out.size))
        have KY23 := Lib.hid (KZ23.out.below BA19.out BA19.out.size)
        have D19 := Lib.hid (show Below y14.heap.size y14 y19 from D18.out.trans (BY19.out.mono D18.out.size))
        clear hy19 hg23 KZ23 ZQ23 OQ23
        try clear cn
        have cn := KN9.out y19 D19.out
        have hzk := HZK.out
        go_upto_region 21 with (first
          | (go_at_call 20; (with_reducible refine (rget_any _ rx M rg1 x.num (PLK.out y19 D19.out).rg.at_).mono ?_); rintro e z20 ⟨q25, hke, hval, rfl, hb⟩
             have KZ25 := Lib.hid (hke.below (Below.refl _ _) (show M ≤ z20.heap.size from by have h1 := (PLK.out y19 D19.out).mr; have h2 := (PLK.out y19 D19.out).lt; have h3 := hb.size; omega))
             have VQ25 := Lib.hid hval
             have BZ20 := Lib.hid hb
             have IQ25 := Lib.hid (show (Try.prog.info? 41).map (·.size) = some q25.V.size by rw [Ke.V_size hke]; exact rk_info)
             have ZQ25 := Lib.hid (show ZV.size = q25.V.size by rw [ZSZ.out, Ke.V_size hke])
             have OQ25 := Lib.hid (show q25.V.all (·.oneCell') = true from kt_ones)
             clear hke hval hb)
          | (refine wpList_store_row rfl 41 (.tmp 25) (.tmp 115) rfl z20.heap.size q25.V rfl rfl _ _ (heap_alloc_new _ _) IQ25.out ZQ25.out OQ25.out ?_; rw [World.setRow_alloc_new]))
        clear hzk
        obtain ⟨y20, hy20⟩ : ∃ y, y = z20.alloc (.cells q25.V 41) := ⟨_, rfl⟩
        obtain ⟨g25, hg25⟩ : ∃ g, g = z20.heap.size := ⟨_, rfl⟩
        rw [← hy20]
        rw [← hg25]
        have RQ25 := Lib.hid (show y20.heap[g25]? = some (.cells q25.V 41 (0, 0)) by rw [hy20, hg25]; exact heap_alloc_new _ _)
        have BA20 := Lib.hid (show Below z20.heap.size z20 y20 by rw [hy20]; exact alloc_below _ _)
        have BY20 := Lib.hid (show Below y19.heap.size y19 y20 from BZ20.out.trans (BA20.out.mono BZ20.out.size))
        have KY25 := Lib.hid (KZ25.out.below BA20.out BA20.out.size)
        have D20 := Lib.hid (show Below y14.heap.size y14 y20 from D19.out.trans (BY20.out.mono D19.out.size))
        clear hy20 hg25 KZ25 ZQ25 OQ25
        try clear cn
        have C20 := Lib.hid (Below.refl y20.heap.size y20)
        have C19 := Lib.hid (show Below y19.heap.size y19 y20 from BY20.out.trans (C20.out.mono BY20.out.size))
        have C18 := Lib.hid (show Below y18.heap.size y18 y20 from BY19.out.trans (C19.out.mono BY19.out.size))
        have C17 := Lib.hid (show Below y17.heap.size y17 y20 from BY18.out.trans (C18.out.mono BY18.out.size))
        have C16 := Lib.hid (show Below y16.heap.size y16 y20 from BY17.out.trans (C17.out.mono BY17.out.size))
        have C15 := Lib.hid (show Below y15.heap.size y15 y20 from BY16.out.trans (C16.out.mono BY16.out.size))
        have RQ15 := Lib.hid (fun w' (h : Gr y20 w') => (show w'.heap[g15]? = some (.cells q15.V 49 (0, 0)) from (h.block _ (by have := lt_of_row RQ15.out; have := C15.out.size; omega)).trans ((C15.out.block _ (lt_of_row RQ15.out)).trans RQ15.out)))
        have KQ15 := Lib.hid (fun w' (h : Gr y20 w') => (KY15.out.below C15.out C15.out.size).below h (Below.size h))
        have RQ17 := Lib.hid (fun w' (h : Gr y20 w') => (show w'.heap[g17]? = some (.cells q17.V 41 (0, 0)) from (h.block _ (by have := lt_of_row RQ17.out; have := C16.out.size; omega)).trans ((C16.out.block _ (lt_of_row RQ17.out)).trans RQ17.out)))
        have KQ17 := Lib.hid (fun w' (h : Gr y20 w') => (KY17.out.below C16.out C16.out.size).below h (Below.size h))
        have RQ19 := Lib.hid (fun w' (h : Gr y20 w') => (show w'.heap[g19]? = some (.cells q19.V 49 (0, 0)) from (h.block _ (by have := lt_of_row RQ19.out; have := C17.out.size; omega)).trans ((C17.out.block _ (lt_of_row RQ19.out)).trans RQ19.out)))
        have KQ19 := Lib.hid (fun w' (h : Gr y20 w') => (KY19.out.below C17.out C17.out.size).below h (Below.size h))
        have RQ21 := Lib.hid (fun w' (h : Gr y20 w') => (show w'.heap[g21]? = some (.cells q21.V 41 (0, 0)) from (h.block _ (by have := lt_of_row RQ21.out; have := C18.out.size; omega)).trans ((C18.out.block _ (lt_of_row RQ21.out)).trans RQ21.out)))
        have KQ21 := Lib.hid (fun w' (h : Gr y20 w') => (KY21.out.below C18.out C18.out.size).below h (Below.size h))
        have RQ23 := Lib.hid (fun w' (h : Gr y20 w') => (show w'.heap[g23]? = some (.cells q23.V 49 (0, 0)) from (h.block _ (by have := lt_of_row RQ23.out; have := C19.out.size; omega)).trans ((C19.out.block _ (lt_of_row RQ23.out)).trans RQ23.out)))
        have KQ23 := Lib.hid (fun w' (h : Gr y20 w') => (KY23.out.below C19.out C19.out.size).below h (Below.size h))
        have RQ25 := Lib.hid (fun w' (h : Gr y20 w') => (show w'.heap[g25]? = some (.cells q25.V 41 (0, 0)) from (h.block _ (by have := lt_of_row RQ25.out; have := C20.out.size; omega)).trans ((C20.out.block _ (lt_of_row RQ25.out)).trans RQ25.out)))
        have KQ25 := Lib.hid (fun w' (h : Gr y20 w') => (KY25.out.below C20.out C20.out.size).below h (Below.size h))
        have PL20 := Lib.hid (PLK.out y20 D20.out)
        have KP := Lib.hid (fun w' (h : Gr y20 w') => KP9.out w' (D20.out.trans (Below.mono h D20.out.size)))
        have PLW := Lib.hid (fun w' (h : Gr y20 w') => PL20.out.below FK.out h)
        have ALC := Lib.hid (fun w' (h : Gr y20 w') => ACC.out w' S9 t rg1 (PLW.out w' h).tb HIV.out)
        have FRC := Lib.hid (fun w' (h : Gr y20 w') => FCC.out w' S9 t rg1 (PLW.out w' h).tb HIV.out)
        have RFC := Lib.hid (fun w' (h : Gr y20 w') => (show Calls Try.prog 25 #[.pointer (some ⟨rx, 0, none⟩), .agg CP] w' (ForR w' M (forL rg1 p)) by have h9 := rfor_any w' rx M rg1 p (PLW.out w' h).rg.at_ HPO.out; rw [HCP.out] at h9; exact h9))
        obtain ⟨AL, ML, CL, esL, hdL, -⟩ := PL20.out.rg
        have KL := Lib.hid (fun w' (h : Gr y20 w') => (hdL.below h).l_)
        have KSL := Lib.hid (fun w' (h : Gr y20 w') => (hdL.below h).ks)
        have HLA := Lib.hid (show rg1.l.length ≤ 1000 by have := HIV.out.le; omega)
        have HLF := Lib.hid (show (forL rg1 p).length ≤ 1000 by have h1 : (forL rg1 p).length ≤ rg1.l.length := List.length_filter_le _ _; have := HIV.out.le; omega)
        have HMW := Lib.hid (show M ≤ y20.heap.size by have := PL20.out.mr; have := PL20.out.lt; omega)
        have HP3 := Lib.hid (show [q15, q19, q23].map Ke.val = [(sendP rg1 p id).1, (getsP rg1 p id).1, (getP rg1 x.num).1] by simp [VQ15.out, VQ19.out, VQ23.out])
        have HR3 := Lib.hid (show [q17, q21, q25].map Ke.val = [(sendP rg1 p id).1, (getsP rg1 p id).1, (getP rg1 x.num).1] by simp [VQ17.out, VQ21.out, VQ25.out])
        obtain ⟨L3, hL3⟩ : ∃ l, l = [(sendP rg1 p id).1, (getsP rg1 p id).1, (getP rg1 x.num).1] := ⟨_, rfl⟩
        rw [← hL3] at HP3 HR3
        obtain ⟨LF, hLF⟩ : ∃ l, l = forL rg1 p := ⟨_, rfl⟩
        rw [← hLF] at HLF FRC RFC
        obtain ⟨LA, hLA⟩ : ∃ l, l = rg1.l := ⟨_, rfl⟩
        rw [← hLA] at HLA ALC KSL
        generalize (sendP rg1 p id).2 = ea at *
        generalize (getsP rg1 p id).2 = eb at *
        generalize (getP rg1 x.num).2 = ec at *
        clear hdL hL3 hLF hLA
        refine with_act fun a0 ha0 => ?_
        have hl : plT.length = a0.tmps.size := by rw [ha0]; rfl
        have k7 : a0.tmps[7]?.getD undef = .pointer (some ⟨t, 0, none⟩) := by rw [ha0]; rfl
        have k8 : a0.tmps[8]?.getD undef = .pointer (some ⟨rx, 0, none⟩) := by rw [ha0]; rfl
        have k4 : a0.tmps[4]?.getD undef = .pointer (some ⟨bx, 0, none⟩) := by rw [ha0]; rfl
        have k16 : a0.tmps[16]?.getD undef = .int .i64 ea := by rw [ha0]; rfl
        have k18 : a0.tmps[18]?.getD undef = .int .i64 ea := by rw [ha0]; rfl
        have k20 : a0.tmps[20]?.getD undef = .int .i64 eb := by rw [ha0]; rfl
        have k22 : a0.tmps[22]?.getD undef = .int .i64 eb := by rw [ha0]; rfl
        have k24 : a0.tmps[24]?.getD undef = .int .i64 ec := by rw [ha0]; rfl
        have k26 : a0.tmps[26]?.getD undef = .int .i64 ec := by rw [ha0]; rfl
        have k15 : a0.tmps[15]?.getD undef = .pointer (some ⟨g15, 0, none⟩) := by rw [ha0]; rfl
        have k17 : a0.tmps[17]?.getD undef = .pointer (some ⟨g17, 0, none⟩) := by rw [ha0]; rfl
        have k19 : a0.tmps[19]?.getD undef = .pointer (some ⟨g19, 0, none⟩) := by rw [ha0]; rfl
        have k21 : a0.tmps[21]?.getD undef = .pointer (some ⟨g21, 0, none⟩) := by rw [ha0]; rfl
        have k23 : a0.tmps[23]?.getD undef = .pointer (some ⟨g23, 0, none⟩) := by rw [ha0]; rfl
        have k25 : a0.tmps[25]?.getD undef = .pointer (some ⟨g25, 0, none⟩) := by rw [ha0]; rfl
        refine wp_region_vals (by kernel_rfl) plT (by kernel_rfl) (by kernel_rfl) hl (fun i => a0.tmps[i + 117]?.getD undef) (by rw [ha0]; rfl) (Gr y20) (plV t rx bx g15 g17 g19 g21 g23 g25 CP AL ML CL q15 q17 q19 q21 q23 q25 LA LF L3 ea eb ec) (show Gr _ _ from (Below.refl _ _).drew) (plV.keep _ _ _ _ _ _ _ _ _ _ _ _ _ _ _ _ _ _ _ _ _ _ _ _ _) ⟨?_, ?_, ?_, ?_, ?_, ?_, ?_, ?_, ?_, ?_, ?_, ?_, ?_, ?_, ?_, ?_, ?_, ?_, ?_, ?_, ?_, ?_, ?_, ?_, ?_, ?_, ?_, ?_, ?_, ?_, ?_, ?_, ?_, ?_, ?_, ?_, ?_, ?_, ?_, ?_, ?_, ?_, ?_, ?_, ?_, trivial⟩ ?_
        · refine step_plain [] (by kernel_rfl) rfl fun us w' hG hV => ?_
          have o7 := (frame_old2 (us := us) (a := a0) (show (plT[7]?).join = none from rfl)).trans k7
          generalize frame plT a0 us = fr at *
          exact val_ok (v := .pointer (some ⟨t, 0, none⟩)) (w' := w') (by go_simp) hG (Below.refl _ _) rfl
        · refine step_plain [0] (by kernel_rfl) rfl fun us w' hG hV => ?_
          have e0 : us 0 = .pointer (some ⟨t, 0, none⟩) := hV 0 (by simp)
          have v0 := (frame_at2 (us := us) hl (show (plT[117]?).join = some 0 from rfl)).trans e0
          generalize frame plT a0 us = fr at *
          exact call_ok (f := 23) (args := #[.pointer (some ⟨t, 0, none⟩)]) (by go_simp) ((ALC.out w' hG).mono fun e w'' ⟨A', n', c', es', h1, h2, h3, h4, h5, h6, h7⟩ => ⟨_, h1, hG.below h7, h7, A', n', c', es', rfl, tell_ks h2 h3 h4 h5 (fun q hq => (h6 q hq).1) HLA.out⟩)
        · refine step_plain [1] (by kernel_rfl) rfl fun us w' hG hV => ?_
          obtain ⟨A1, n1, c1, es1, e1, P1⟩ := (show ∃ A' n' c' es', us 1 = .slice A' n' c' ∧ KsP w' A' n' c' es' LA from hV 1 (by simp))
          have v1 := (frame_at2 (us := us) hl (show (plT[118]?).join = some 1 from rfl)).trans e1
          generalize frame plT a0 us = fr at *
          exact call_ok (f := 22) (args := #[.slice A1 n1 c1]) (by go_simp) ((ours_ks P1).mono fun e w'' ⟨A', n', c', h1, h2, h3⟩ => ⟨_, h1, hG.below h3, h3, A', n', c', es1, rfl, h2⟩)
        · refine step_plain [] (by kernel_rfl) rfl fun us w' hG hV => ?_
          have o8 := (frame_old2 (us := us) (a := a0) (show (plT[8]?).join = none from rfl)).trans k8
          generalize frame plT a0 us = fr at *
          exact val_ok (v := .pointer (some ⟨rx, 1, none⟩)) (w' := w') (by go_simp) hG (Below.refl _ _) rfl
        · refine step_plain [3] (by kernel_rfl) rfl fun us w' hG hV => ?_
          have e3 : us 3 = .pointer (some ⟨rx, 1, none⟩) := hV 3 (by simp)
          have v3 := (frame_at2 (us := us) hl (show (plT[120]?).join = some 3 from rfl)).trans e3
          have hc := KL.out w' hG
          generalize frame plT a0 us = fr at *
          exact val_ok (v := .slice AL ML CL) (w' := w') (by go_simp) hG (Below.refl _ _) rfl
        · refine step_plain [2, 4] (by kernel_rfl) rfl fun us w' hG hV => ?_
          obtain ⟨A2, n2, c2, es2, e2, P2⟩ := (show ∃ A' n' c' es', us 2 = .slice A' n' c' ∧ KsP w' A' n' c' es' LA from hV 2 (by simp))
          have v2 := (frame_at2 (us := us) hl (show (plT[119]?).join = some 2 from rfl)).trans e2
          have e4 : us 4 = .slice AL ML CL := hV 4 (by simp)
          have v4 := (frame_at2 (us := us) hl (show (plT[121]?).join = some 4 from rfl)).trans e4
          generalize frame plT a0 us = fr at *
          exact call_ok (f := 21) (args := #[.slice A2 n2 c2, .slice AL ML CL]) (by go_simp) ((same_ks P2 (KSL.out w' hG)).mono fun e w'' h => ⟨_, h.1, hG.below h.2, h.2, rfl⟩)
        · refine step_plain [5] (by kernel_rfl) rfl fun us w' hG hV => ?_
          have e5 : us 5 = .bool true := hV 5 (by simp)
          have v5 := (frame_at2 (us := us) hl (show (plT[122]?).join = some 5 from rfl)).trans e5
          generalize frame plT a0 us = fr at *
          exact val_ok (v := .bool false) (w' := w') (by go_simp) hG (Below.refl _ _) rfl
        · refine step_plain [6] (by kernel_rfl) rfl fun us w' hG hV => ?_
          have e6 : us 6 = .bool false := hV 6 (by simp)
          have v6 := (frame_at2 (us := us) hl (show (plT[123]?).join = some 6 from rfl)).trans e6
          generalize frame plT a0 us = fr at *
          exact val_ok (v := .bool false) (w' := w') (by go_simp) hG (Below.refl _ _) rfl
        · refine step_guard [7] (by kernel_rfl) (j := 7) (t := 124) (b := false) rfl (by simp) rfl hl rfl (fun v w h => h) fun us w' hG hV => ?_
          have o7 := (frame_old2 (us := us) (a := a0) (show (plT[7]?).join = none from rfl)).trans k7
          generalize frame plT a0 us = fr at *
          exact val_ok (v := .pointer (some ⟨t, 0, none⟩)) (w' := w') (by go_simp) hG (Below.refl _ _) rfl
        · refine step_guard [7] (by kernel_rfl) (j := 7) (t := 124) (b := false) rfl (by simp) rfl hl rfl (fun v w h => h) fun us w' hG hV => ?_
          have o4 := (frame_old2 (us := us) (a := a0) (show (plT[4]?).join = none from rfl)).trans k4
          have hg1 := (KP.out w' hG)
          generalize frame plT a0 us = fr at *
          exact load_ok 30 4 rfl (bx) o4 _ _ (0, 0) _ hg1 Try.underlying30 rfl IP.out hG rfl
        · refine step_guard [7, 8, 9] (by kernel_rfl) (j := 7) (t := 124) (b := false) rfl (by simp) rfl hl rfl (fun v w h => h) fun us w' hG hV => ?_
          have e8 : us 8 = .pointer (some ⟨t, 0, none⟩) := hV 8 (by simp)
          have v8 := (frame_at2 (us := us) hl (show (plT[125]?).join = some 8 from rfl)).trans e8
          have e9 : us 9 = .agg CP := hV 9 (by simp)
          have v9 := (frame_at2 (us := us) hl (show (plT[126]?).join = some 9 from rfl)).trans e9
          generalize frame plT a0 us = fr at *
          exact call_ok (f := 24) (args := #[.pointer (some ⟨t, 0, none⟩), .agg CP]) (by go_simp) ((FRC.out w' hG).mono fun e w'' ⟨A', n', c', es', h1, h2, h3, h4, h5, h6, h7⟩ => ⟨_, h1, hG.below h7, h7, A', n', c', es', rfl, tell_ks h2 h3 h4 h5 (fun q hq => (h6 q hq).1) HLF.out⟩)
        · refine step_guard [7, 10] (by kernel_rfl) (j := 7) (t := 124) (b := false) rfl (by simp) rfl hl rfl (fun v w h => h) fun us w' hG hV => ?_
          obtain ⟨A10, n10, c10, es10, e10, P10⟩ := (show ∃ A' n' c' es', us 10 = .slice A' n' c' ∧ KsP w' A' n' c' es' LF from hV 10 (by simp))
          have v10 := (frame_at2 (us := us) hl (show (plT[127]?).join = some 10 from rfl)).trans e10
          generalize frame plT a0 us = fr at *
          exact call_ok (f := 22) (args := #[.slice A10 n10 c10]) (by go_simp) ((ours_ks P10).mono fun e w'' ⟨A', n', c', h1, h2, h3⟩ => ⟨_, h1, hG.below h3, h3, A', n', c', es10, rfl, h2⟩)
        · refine step_guard [7] (by kernel_rfl) (j := 7) (t := 124) (b := false) rfl (by simp) rfl hl rfl (fun v w h => h) fun us w' hG hV => ?_
          have o4 := (frame_old2 (us := us) (a := a0) (show (plT[4]?).join = none from rfl)).trans k4
          have hg1 := (KP.out w' hG)
          generalize frame plT a0 us = fr at *
          exact load_ok 30 4 rfl (bx) o4 _ _ (0, 0) _ hg1 Try.underlying30 rfl IP.out hG rfl
        · refine step_guard [7, 12] (by kernel_rfl) (j := 7) (t := 124) (b := false) rfl (by simp) rfl hl rfl (fun v w h => h) fun us w' hG hV => ?_
          have e12 : us 12 = .agg CP := hV 12 (by simp)
          have v12 := (frame_at2 (us := us) hl (show (plT[129]?).join = some 12 from rfl)).trans e12
          have o8 := (frame_old2 (us := us) (a := a0) (show (plT[8]?).join = none from rfl)).trans k8
          generalize frame plT a0 us = fr at *
          exact call_ok (f := 25) (args := #[.pointer (some ⟨rx, 0, none⟩), .agg CP]) (by go_simp) ((RFC.out w' hG).mono fun e w'' ⟨A', n', c', es', h1, h2, h3, h4, h5, h6, h7⟩ => ⟨_, h1, hG.below h7, h7, A', n', c', es', rfl, own_ks h2 h3 h4 h5 (fun q hq => (h6 q hq).below (Below.refl _ _) (Nat.le_trans HMW.out (Nat.le_trans (Below.size hG) h7.size))) HLF.out⟩)
        · refine step_guard [7, 11, 13] (by kernel_rfl) (j := 7) (t := 124) (b := false) rfl (by simp) rfl hl rfl (fun v w h => h) fun us w' hG hV => ?_
          obtain ⟨A11, n11, c11, es11, e11, P11⟩ := (show ∃ A' n' c' es', us 11 = .slice A' n' c' ∧ KsP w' A' n' c' es' LF from hV 11 (by simp))
          have v11 := (frame_at2 (us := us) hl (show (plT[128]?).join = some 11 from rfl)).trans e11
          obtain ⟨A13, n13, c13, es13, e13, P13⟩ := (show ∃ A' n' c' es', us 13 = .slice A' n' c' ∧ KsP w' A' n' c' es' LF from hV 13 (by simp))
          have v13 := (frame_at2 (us := us) hl (show (plT[130]?).join = some 13 from rfl)).trans e13
          generalize frame plT a0 us = fr at *
          exact call_ok (f := 21) (args := #[.slice A11 n11 c11, .slice A13 n13 c13]) (by go_simp) ((same_ks P11 P13).mono fun e w'' h => ⟨_, h.1, hG.below h.2, h.2, rfl⟩)
        · refine step_guard [7, 14] (by kernel_rfl) (j := 7) (t := 124) (b := false) rfl (by simp) rfl hl rfl (fun v w h => h) fun us w' hG hV => ?_
          have e14 : us 14 = .bool true := hV 14 (by simp)
          have v14 := (frame_at2 (us := us) hl (show (plT[131]?).join = some 14 from rfl)).trans e14
          generalize frame plT a0 us = fr at *
          exact val_ok (v := .bool false) (w' := w') (by go_simp) hG (Below.refl _ _) rfl
        · refine step_plain [7, 15] (by kernel_rfl) rfl fun us w' hG hV => ?_
          have e7 : us 7 = .bool false := hV 7 (by simp)
          have v7 := (frame_at2 (us := us) hl (show (plT[124]?).join = some 7 from rfl)).trans e7
          have e15 : us 15 = .bool false := hV 15 (by simp)
          have v15 := (frame_at2 (us := us) hl (show (plT[132]?).join = some 15 from rfl)).trans e15
          generalize frame plT a0 us = fr at *
          exact val_ok (v := .bool false) (w' := w') (by go_simp) hG (Below.refl _ _) rfl
        · refine step_plain [16] (by kernel_rfl) rfl fun us w' hG hV => ?_
          have e16 : us 16 = .bool false := hV 16 (by simp)
          have v16 := (frame_at2 (us := us) hl (show (plT[133]?).join = some 16 from rfl)).trans e16
          generalize frame plT a0 us = fr at *
          exact val_ok (v := .bool false) (w' := w') (by go_simp) hG (Below.refl _ _) rfl
        · refine step_guard [17] (by kernel_rfl) (j := 17) (t := 134) (b := false) rfl (by simp) rfl hl rfl (fun v w h => h) fun us w' hG hV => ?_
          have o15 := (frame_old2 (us := us) (a := a0) (show (plT[15]?).join = none from rfl)).trans k15
          have hg1 := (RQ15.out w' hG)
          generalize frame plT a0 us = fr at *
          exact load_ok 49 15 rfl (g15) o15 _ _ (0, 0) _ hg1 Try.underlying49 rfl IQ15.out hG rfl
        · refine step_guard [17] (by kernel_rfl) (j := 17) (t := 134) (b := false) rfl (by simp) rfl hl rfl (fun v w h => h) fun us w' hG hV => ?_
          have o19 := (frame_old2 (us := us) (a := a0) (show (plT[19]?).join = none from rfl)).trans k19
          have hg1 := (RQ19.out w' hG)
          generalize frame plT a0 us = fr at *
          exact load_ok 49 19 rfl (g19) o19 _ _ (0, 0) _ hg1 Try.underlying49 rfl IQ19.out hG rfl
        · refine step_guard [17] (by kernel_rfl) (j := 17) (t := 134) (b := false) rfl (by simp) rfl hl rfl (fun v w h => h) fun us w' hG hV => ?_
          have o23 := (frame_old2 (us := us) (a := a0) (show (plT[23]?).join = none from rfl)).trans k23
          have hg1 := (RQ23.out w' hG)
          generalize frame plT a0 us = fr at *
          exact load_ok 49 23 rfl (g23) o23 _ _ (0, 0) _ hg1 Try.underlying49 rfl IQ23.out hG rfl
        · refine step_guard [17, 18, 19, 20] (by kernel_rfl) (j := 17) (t := 134) (b := false) rfl (by simp) rfl hl rfl (fun v w h => h) fun us w' hG hV => ?_
          have e18 : us 18 = .agg (Ke.V q15) := hV 18 (by simp)
          have v18 := (frame_at2 (us := us) hl (show (plT[135]?).join = some 18 from rfl)).trans e18
          have e19 : us 19 = .agg (Ke.V q19) := hV 19 (by simp)
          have v19 := (frame_at2 (us := us) hl (show (plT[136]?).join = some 19 from rfl)).trans e19
          have e20 : us 20 = .agg (Ke.V q23) := hV 20 (by simp)
          have v20 := (frame_at2 (us := us) hl (show (plT[137]?).join = some 20 from rfl)).trans e20
          generalize frame plT a0 us = fr at *
          exact lit3_J (R := fun v w'' => Gr y20 w'' ∧ Below w'.heap.size w' w'' ∧ plV t rx bx g15 g17 g19 g21 g23 g25 CP AL ML CL q15 q17 q19 q21 q23 q25 LA LF L3 ea eb ec 21 v w'') 135 136 137 rfl Try.underlying61 pk_infoK q15 q19 q23 v18 v19 v20 (Ke.L_len (KQ15.out _ hG)) (Ke.L_len (KQ19.out _ hG)) (Ke.L_len (KQ23.out _ hG)) ⟨hG.below (alloc_below _ _), alloc_below _ _, _, 3, 3, [q15, q19, q23], rfl, lit_ks (heap_alloc_new _ _) (KQ15.out _ (hG.below (alloc_below _ _))) (KQ19.out _ (hG.below (alloc_below _ _))) (KQ23.out _ (hG.below (alloc_below _ _))) HP3.out⟩
        · refine step_guard [17, 21] (by kernel_rfl) (j := 17) (t := 134) (b := false) rfl (by simp) rfl hl rfl (fun v w h => h) fun us w' hG hV => ?_
          obtain ⟨A21, n21, c21, es21, e21, P21⟩ := (show ∃ A' n' c' es', us 21 = .slice A' n' c' ∧ KsP w' A' n' c' es' L3 from hV 21 (by simp))
          have v21 := (frame_at2 (us := us) hl (show (plT[138]?).join = some 21 from rfl)).trans e21
          generalize frame plT a0 us = fr at *
          exact call_ok (f := 22) (args := #[.slice A21 n21 c21]) (by go_simp) ((ours_ks P21).mono fun e w'' ⟨A', n', c', h1, h2, h3⟩ => ⟨_, h1, hG.below h3, h3, A', n', c', es21, rfl, h2⟩)
        · refine step_guard [17] (by kernel_rfl) (j := 17) (t := 134) (b := false) rfl (by simp) rfl hl rfl (fun v w h => h) fun us w' hG hV => ?_
          have o17 := (frame_old2 (us := us) (a := a0) (show (plT[17]?).join = none from rfl)).trans k17
          have hg1 := (RQ17.out w' hG)
          generalize frame plT a0 us = fr at *
          exact load_ok 41 17 rfl (g17) o17 _ _ (0, 0) _ hg1 Try.underlying41 rfl IQ17.out hG rfl
        · refine step_guard [17] (by kernel_rfl) (j := 17) (t := 134) (b := false) rfl (by simp) rfl hl rfl (fun v w h => h) fun us w' hG hV => ?_
          have o21 := (frame_old2 (us := us) (a := a0) (show (plT[21]?).join = none from rfl)).trans k21
          have hg1 := (RQ21.out w' hG)
          generalize frame plT a0 us = fr at *
          exact load_ok 41 21 rfl (g21) o21 _ _ (0, 0) _ hg1 Try.underlying41 rfl IQ21.out hG rfl
        · refine step_guard [17] (by kernel_rfl) (j := 17) (t := 134) (b := false) rfl (by simp) rfl hl rfl (fun v w h => h) fun us w' hG hV => ?_
          have o25 := (frame_old2 (us := us) (a := a0) (show (plT[25]?).join = none from rfl)).trans k25
          have hg1 := (RQ25.out w' hG)
          generalize frame plT a0 us = fr at *
          exact load_ok 41 25 rfl (g25) o25 _ _ (0, 0) _ hg1 Try.underlying41 rfl IQ25.out hG rfl
        · refine step_guard [17, 23, 24, 25] (by kernel_rfl) (j := 17) (t := 134) (b := false) rfl (by simp) rfl hl rfl (fun v w h => h) fun us w' hG hV => ?_
          have e23 : us 23 = .agg (Ke.V q17) := hV 23 (by simp)
          have v23 := (frame_at2 (us := us) hl (show (plT[140]?).join = some 23 from rfl)).trans e23
          have e24 : us 24 = .agg (Ke.V q21) := hV 24 (by simp)
          have v24 := (frame_at2 (us := us) hl (show (plT[141]?).join = some 24 from rfl)).trans e24
          have e25 : us 25 = .agg (Ke.V q25) := hV 25 (by simp)
          have v25 := (frame_at2 (us := us) hl (show (plT[142]?).join = some 25 from rfl)).trans e25
          generalize frame plT a0 us = fr at *
          exact lit3_J (R := fun v w'' => Gr y20 w'' ∧ Below w'.heap.size w' w'' ∧ plV t rx bx g15 g17 g19 g21 g23 g25 CP AL ML CL q15 q17 q19 q21 q23 q25 LA LF L3 ea eb ec 26 v w'') 140 141 142 rfl Try.underlying33 rk_infoK q17 q21 q25 v23 v24 v25 (Ke.L_len (KQ17.out _ hG)) (Ke.L_len (KQ21.out _ hG)) (Ke.L_len (KQ25.out _ hG)) ⟨hG.below (alloc_below _ _), alloc_below _ _, _, 3, 3, [q17, q21, q25], rfl, lit_ks (heap_alloc_new _ _) (KQ17.out _ (hG.below (alloc_below _ _))) (KQ21.out _ (hG.below (alloc_below _ _))) (KQ25.out _ (hG.below (alloc_below _ _))) HR3.out⟩
        · refine step_guard [17, 22, 26] (by kernel_rfl) (j := 17) (t := 134) (b := false) rfl (by simp) rfl hl rfl (fun v w h => h) fun us w' hG hV => ?_
          obtain ⟨A22, n22, c22, es22, e22, P22⟩ := (show ∃ A' n' c' es', us 22 = .slice A' n' c' ∧ KsP w' A' n' c' es' L3 from hV 22 (by simp))
          have v22 := (frame_at2 (us := us) hl (show (plT[139]?).join = some 22 from rfl)).trans e22
          obtain ⟨A26, n26, c26, es26, e26, P26⟩ := (show ∃ A' n' c' es', us 26 = .slice A' n' c' ∧ KsP w' A' n' c' es' L3 from hV 26 (by simp))
          have v26 := (frame_at2 (us := us) hl (show (plT[143]?).join = some 26 from rfl)).trans e26
          generalize frame plT a0 us = fr at *
          exact call_ok (f := 21) (args := #[.slice A22 n22 c22, .slice A26 n26 c26]) (by go_simp) ((same_ks P22 P26).mono fun e w'' h => ⟨_, h.1, hG.below h.2, h.2, rfl⟩)
        · refine step_guard [17, 27] (by kernel_rfl) (j := 17) (t := 134) (b := false) rfl (by simp) rfl hl rfl (fun v w h => h) fun us w' hG hV => ?_
          have e27 : us 27 = .bool true := hV 27 (by simp)
          have v27 := (frame_at2 (us := us) hl (show (plT[144]?).join = some 27 from rfl)).trans e27
          generalize frame plT a0 us = fr at *
          exact val_ok (v := .bool false) (w' := w') (by go_simp) hG (Below.refl _ _) rfl
        · refine step_plain [17, 28] (by kernel_rfl) rfl fun us w' hG hV => ?_
          have e17 : us 17 = .bool false := hV 17 (by simp)
          have v17 := (frame_at2 (us := us) hl (show (plT[134]?).join = some 17 from rfl)).trans e17
          have e28 : us 28 = .bool false := hV 28 (by simp)
          have v28 := (frame_at2 (us := us) hl (show (plT[145]?).join = some 28 from rfl)).trans e28
          generalize frame plT a0 us = fr at *
          exact val_ok (v := .bool false) (w' := w') (by go_simp) hG (Below.refl _ _) rfl
        · refine step_plain [29] (by kernel_rfl) rfl fun us w' hG hV => ?_
          have e29 : us 29 = .bool false := hV 29 (by simp)
          have v29 := (frame_at2 (us := us) hl (show (plT[146]?).join = some 29 from rfl)).trans e29
          generalize frame plT a0 us = fr at *
          exact val_ok (v := .bool false) (w' := w') (by go_simp) hG (Below.refl _ _) rfl
        · refine step_guard [30] (by kernel_rfl) (j := 30) (t := 147) (b := false) rfl (by simp) rfl hl rfl (fun v w h => h) fun us w' hG hV => ?_
          have o16 := (frame_old2 (us := us) (a := a0) (show (plT[16]?).join = none from rfl)).trans k16
          generalize frame plT a0 us = fr at *
          exact val_ok (v := .int .i64 ea) (w' := w') (by go_simp) hG (Below.refl _ _) rfl
        · refine step_guard [30] (by kernel_rfl) (j := 30) (t := 147) (b := false) rfl (by simp) rfl hl rfl (fun v w h => h) fun us w' hG hV => ?_
          have o18 := (frame_old2 (us := us) (a := a0) (show (plT[18]?).join = none from rfl)).trans k18
          generalize frame plT a0 us = fr at *
          exact val_ok (v := .int .i64 ea) (w' := w') (by go_simp) hG (Below.refl _ _) rfl
        · refine step_guard [30, 31, 32] (by kernel_rfl) (j := 30) (t := 147) (b := false) rfl (by simp) rfl hl rfl (fun v w h => h) fun us w' hG hV => ?_
          have e31 : us 31 = .int .i64 ea := hV 31 (by simp)
          have v31 := (frame_at2 (us := us) hl (show (plT[148]?).join = some 31 from rfl)).trans e31
          have e32 : us 32 = .int .i64 ea := hV 32 (by simp)
          have v32 := (frame_at2 (us := us) hl (show (plT[149]?).join = some 32 from rfl)).trans e32
          generalize frame plT a0 us = fr at *
          exact val_ok (v := .bool false) (w' := w') (by go_simp) hG (Below.refl _ _) rfl
        · refine step_plain [30, 33] (by kernel_rfl) rfl fun us w' hG hV => ?_
          have e30 : us 30 = .bool false := hV 30 (by simp)
          have v30 := (frame_at2 (us := us) hl (show (plT[147]?).join = some 30 from rfl)).trans e30
          have e33 : us 33 = .bool false := hV 33 (by simp)
          have v33 := (frame_at2 (us := us) hl (show (plT[150]?).join = some 33 from rfl)).trans e33
          generalize frame plT a0 us = fr at *
          exact val_ok (v := .bool false) (w' := w') (by go_simp) hG (Below.refl _ _) rfl
        · refine step_plain [34] (by kernel_rfl) rfl fun us w' hG hV => ?_
          have e34 : us 34 = .bool false := hV 34 (by simp)
          have v34 := (frame_at2 (us := us) hl (show (plT[151]?).join = some 34 from rfl)).trans e34
          generalize frame plT a0 us = fr at *
          exact val_ok (v := .bool false) (w' := w') (by go_simp) hG (Below.refl _ _) rfl
        · refine step_guard [35] (by kernel_rfl) (j := 35) (t := 152) (b := false) rfl (by simp) rfl hl rfl (fun v w h => h) fun us w' hG hV => ?_
          have o20 := (frame_old2 (us := us) (a := a0) (show (plT[20]?).join = none from rfl)).trans k20
          generalize frame plT a0 us = fr at *
          exact val_ok (v := .int .i64 eb) (w' := w') (by go_simp) hG (Below.refl _ _) rfl
        · refine step_guard [35] (by kernel_rfl) (j := 35) (t := 152) (b := false) rfl (by simp) rfl hl rfl (fun v w h => h) fun us w' hG hV => ?_
          have o22 := (frame_old2 (us := us) (a := a0) (show (plT[22]?).join = none from rfl)).trans k22
          generalize frame plT a0 us = fr at *
          exact val_ok (v := .int .i64 eb) (w' := w') (by go_simp) hG (Below.refl _ _) rfl
        · refine step_guard [35, 36, 37] (by kernel_rfl) (j := 35) (t := 152) (b := false) rfl (by simp) rfl hl rfl (fun v w h => h) fun us w' hG hV => ?_
          have e36 : us 36 = .int .i64 eb := hV 36 (by simp)
          have v36 := (frame_at2 (us := us) hl (show (plT[153]?).join = some 36 from rfl)).trans e36
          have e37 : us 37 = .int .i64 eb := hV 37 (by simp)
          have v37 := (frame_at2 (us := us) hl (show (plT[154]?).join = some 37 from rfl)).trans e37
          generalize frame plT a0 us = fr at *
          exact val_ok (v := .bool false) (w' := w') (by go_simp) hG (Below.refl _ _) rfl
        · refine step_plain [35, 38] (by kernel_rfl) rfl fun us w' hG hV => ?_
          have e35 : us 35 = .bool false := hV 35 (by simp)
          have v35 := (frame_at2 (us := us) hl (show (plT[152]?).join = some 35 from rfl)).trans e35
          have e38 : us 38 = .bool false := hV 38 (by simp)
          have v38 := (frame_at2 (us := us) hl (show (plT[155]?).join = some 38 from rfl)).trans e38
          generalize frame plT a0 us = fr at *
          exact val_ok (v := .bool false) (w' := w') (by go_simp) hG (Below.refl _ _) rfl
        · refine step_plain [39] (by kernel_rfl) rfl fun us w' hG hV => ?_
          have e39 : us 39 = .bool false := hV 39 (by simp)
          have v39 := (frame_at2 (us := us) hl (show (plT[156]?).join = some 39 from rfl)).trans e39
          generalize frame plT a0 us = fr at *
          exact val_ok (v := .bool false) (w' := w') (by go_simp) hG (Below.refl _ _) rfl
        · refine step_guard [40] (by kernel_rfl) (j := 40) (t := 157) (b := false) rfl (by simp) rfl hl rfl (fun v w h => h) fun us w' hG hV => ?_
          have o24 := (frame_old2 (us := us) (a := a0) (show (plT[24]?).join = none from rfl)).trans k24
          generalize frame plT a0 us = fr at *
          exact val_ok (v := .int .i64 ec) (w' := w') (by go_simp) hG (Below.refl _ _) rfl
        · refine step_guard [40] (by kernel_rfl) (j := 40) (t := 157) (b := false) rfl (by simp) rfl hl rfl (fun v w h => h) fun us w' hG hV => ?_
          have o26 := (frame_old2 (us := us) (a := a0) (show (plT[26]?).join = none from rfl)).trans k26
          generalize frame plT a0 us = fr at *
          exact val_ok (v := .int .i64 ec) (w' := w') (by go_simp) hG (Below.refl _ _) rfl
        · refine step_guard [40, 41, 42] (by kernel_rfl) (j := 40) (t := 157) (b := false) rfl (by simp) rfl hl rfl (fun v w h => h) fun us w' hG hV => ?_
          have e41 : us 41 = .int .i64 ec := hV 41 (by simp)
          have v41 := (frame_at2 (us := us) hl (show (plT[158]?).join = some 41 from rfl)).trans e41
          have e42 : us 42 = .int .i64 ec := hV 42 (by simp)
          have v42 := (frame_at2 (us := us) hl (show (plT[159]?).join = some 42 from rfl)).trans e42
          generalize frame plT a0 us = fr at *
          exact val_ok (v := .bool false) (w' := w') (by go_simp) hG (Below.refl _ _) rfl
        · refine step_plain [40, 43] (by kernel_rfl) rfl fun us w' hG hV => ?_
          have e40 : us 40 = .bool false := hV 40 (by simp)
          have v40 := (frame_at2 (us := us) hl (show (plT[157]?).join = some 40 from rfl)).trans e40
          have e43 : us 43 = .bool false := hV 43 (by simp)
          have v43 := (frame_at2 (us := us) hl (show (plT[160]?).join = some 43 from rfl)).trans e43
          generalize frame plT a0 us = fr at *
          exact val_ok (v := .bool false) (w' := w') (by go_simp) hG (Below.refl _ _) rfl
        · intro us yz hG hV
          have e44 : us 44 = .bool false := hV 44 (by decide)
          subst ha0
          simp only [frame, plT, fill]
          rw [e44]
          have HG := Lib.hid (show Below y20.heap.size y20 yz from hG)
          clear hV hl hG e44
          generalize us 0 = u_0
          generalize us 1 = u_1
          generalize us 2 = u_2
          generalize us 3 = u_3
          generalize us 4 = u_4
          generalize us 5 = u_5
          generalize us 6 = u_6
          generalize us 7 = u_7
          generalize us 8 = u_8
          generalize us 9 = u_9
          generalize us 10 = u_10
          generalize us 11 = u_11
          generalize us 12 = u_12
          generalize us 13 = u_13
          generalize us 14 = u_14
          generalize us 15 = u_15
          generalize us 16 = u_16
          generalize us 17 = u_17
          generalize us 18 = u_18
          generalize us 19 = u_19
          generalize us 20 = u_20
          generalize us 21 = u_21
          generalize us 22 = u_22
          generalize us 23 = u_23
          generalize us 24 = u_24
          generalize us 25 = u_25
          generalize us 26 = u_26
          generalize us 27 = u_27
          generalize us 28 = u_28
          generalize us 29 = u_29
          generalize us 30 = u_30
          generalize us 31 = u_31
          generalize us 32 = u_32
          generalize us 33 = u_33
          generalize us 34 = u_34
          generalize us 35 = u_35
          generalize us 36 = u_36
          generalize us 37 = u_37
          generalize us 38 = u_38
          generalize us 39 = u_39
          generalize us 40 = u_40
          generalize us 41 = u_41
          generalize us 42 = u_42
          generalize us 43 = u_43
          go_wp2_with fail
          go_roundw
          case rel => exact ⟨i + 1, S9, rg1, by simp, HI.out, HIV.out, (PL20.out.below FK.out HG.out), BL9.out.trans ((D20.out.trans (HG.out.mono D20.out.size)).mono BL9.out.size)⟩
          case measure => have := HM.out; have := HI.out; simp [intOf]; omega
end Go.Proofs.Ytflfkhcbkhdahaa.mkC
