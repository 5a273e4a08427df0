/-
  2 texts of a proof, joined.
-/
import Derived.Test.YtmkekdmkefkfiaaDoorMg21
import Derived.Test.YtmkekdmkefkfiaaDoorMg20
import Derived.Test.YtmkekdmkefkfiaaDoorMg7
import Derived.Test.YtmkekdmkefkfiaaDoorMg2
import Derived.Deep.CutRange
import Derived.Deep.AppendLies

/-
  The walk of AddrBack.
-/
namespace Go.Proofs.YtmkekdmkefkfiaaDoor.adC
open Go.ChangeShapes Go.WideShapes Go.ChangeAt Go.RowKit
open Go.Proofs.YtmkekdmkefkfiaaDoor.memC Go.Proofs.YtmkekdmkefkfiaaDoor.genC Go.Proofs.YtmkekdmkefkfiaaDoor.butC Go.Proofs.YtmkekdmkefkfiaaDoor.freeC Go.Proofs.YtmkekdmkefkfiaaDoor.txC
set_option linter.unusedVariables false
section
variable {P : Program} {L : List Oper} {Q : Exit → Act → World → Prop} {o : Oper} {a : Act} {tab : List (Option Nat)} {G : World → Prop} {V : Nat → Value → World → Prop} {i : Nat}
/-- an operation whose guard may say either -/
theorem step_cond (need : List Nat) (hn : needs o need = true) {j t : Nat} (hg : o.guard = some (j, true)) (hj : j ∈ need) (hL : (L[j]?).bind (·.dst) = some t) (hl : tab.length = a.tmps.size) (ht : (tab[t]?).join = some j) (c : Bool)
    (hv : ∀ v w, V j v w → v = .bool c) (hu : c = false → ∀ w, V i undef w)
    (h : c = true → ∀ us w, G w → (∀ j, j ∈ need → V j (us j) w) → o.wp P (frame tab a us) w (fun a' w' => ∃ v, a' = (frame tab a us).put o.dst v ∧ G w' ∧ Below w.heap.size w w' ∧ V i v w') Q) : Step P L Q tab a G V i o := by
  intro m us w hG hV hd
  have hy := yield_at (L := L) (us := us) hl hL ht (hv _ _ (hV j (need_ok hn hd j hj)))
  cases c
  · rw [if_neg (by simp [Region.wanted, hg, hy])]
    exact hu rfl w
  · rw [if_pos (show Region.wanted o (yielded L.toArray (frame tab a us).tmps) = true by simp [Region.wanted, hg, hy])]
    exact h rfl us w hG fun j hj => hV j (need_ok hn hd j hj)
end
theorem snq_run {P : Program} {o : Oper} {a : Act} {w : World} {T : TypeId} {s x : Operand} {S : ByteArray} {R : TypeId} (ho : o.op = .binOp .neq T s x R) (hs : a.eval s = .string S) (hx : a.eval x = .string S) : (execOp a.eval o).run P w = .ok (.value (.bool false)) w := by
  have h := neq_run (P := P) (w := w) (q := true) ho hs hx (by simp)
  exact h
def baV (g0 g1 : Nat) (TX CA : Array Value) (bs : List Int) (SB : ByteArray) : Nat → Value → World → Prop
  | 0, v, _ => v = .int .i64 0
  | 1, v, _ => v = .bool false
  | 2, v, _ => v = .bool false
  | 3, v, _ => v = .agg CA
  | 4, v, _ => v = .bool true
  | 5, v, _ => v = .bool true
  | 6, v, _ => v = .agg TX
  | 7, v, _ => v = .agg CA
  | 8, v, _ => v = .bool !true
  | 9, v, _ => v = .bool false
  | 10, v, _ => v = .bool false
  | 11, v, _ => v = .bool false
  | 12, v, _ => v = .agg TX
  | 13, v, w => ∃ A n c, v = .slice A n c ∧ Nums .u8 w w.heap.size A n bs
  | 14, v, _ => v = .string SB
  | 15, v, _ => v = .agg CA
  | 16, v, w => ∃ A n c, v = .slice A n c ∧ Nums .u8 w w.heap.size A n bs
  | 17, v, _ => v = .string SB
  | 18, v, _ => v = .bool false
  | 19, v, _ => v = .bool false
  | _, _, _ => True
theorem baV.keep (g0 g1 : Nat) (TX CA : Array Value) (bs : List Int) (SB : ByteArray) (i : Nat) (v : Value) (w w' : World) (hb : Below w.heap.size w w') (h : baV g0 g1 TX CA bs SB i v w) : baV g0 g1 TX CA bs SB i v w' := by
  by_cases e13 : i = 13
  · subst e13
    obtain ⟨A', n', c', h1, h2⟩ := h
    exact ⟨A', n', c', h1, (h2.below hb).more hb.size⟩
  by_cases e16 : i = 16
  · subst e16
    obtain ⟨A', n', c', h1, h2⟩ := h
    exact ⟨A', n', c', h1, (h2.below hb).more hb.size⟩
  unfold baV at h ⊢
  split at h <;> first | exact h | exact absurd rfl (by assumption)
def baT : List (Option Nat) := [none, none, none, none, none, none, none, none, none, none, none, none, none, none, none, none, none, none, none, none, none, some 0, some 1, some 2, some 3, some 4, some 5, some 6, some 7, some 8, some 9, some 10, some 11, some 12, some 13, some 14, some 15, some 16, some 17, some 18, some 19, none, none, none, none, none, none, none, none, none, none, none, none, none, none, none, none, none, none, none, none, none, none, none, none, none, none, none, none, none, none, none, none, none, none, none, none, none, none, none, none, none, none]
def bcV (g0 g1 : Nat) (TX CA : Array Value) (bs : List Int) (SB : ByteArray) : Nat → Value → World → Prop
  | 0, v, _ => v = .int .i64 0
  | 1, v, _ => v = .bool false
  | 2, v, _ => v = .bool false
  | 3, v, _ => v = .agg CA
  | 4, v, _ => v = .bool false
  | 5, v, _ => v = .bool false
  | 9, v, _ => v = .bool false
  | 10, v, _ => v = .bool false
  | 11, v, _ => v = .bool false
  | 12, v, _ => v = .agg TX
  | 13, v, w => ∃ A n c, v = .slice A n c ∧ Nums .u8 w w.heap.size A n bs
  | 14, v, _ => v = .string SB
  | 15, v, _ => v = .agg CA
  | 16, v, w => ∃ A n c, v = .slice A n c ∧ Nums .u8 w w.heap.size A n bs
  | 17, v, _ => v = .string SB
  | 18, v, _ => v = .bool false
  | 19, v, _ => v = .bool false
  | _, _, _ => True
theorem bcV.keep (g0 g1 : Nat) (TX CA : Array Value) (bs : List Int) (SB : ByteArray) (i : Nat) (v : Value) (w w' : World) (hb : Below w.heap.size w w') (h : bcV g0 g1 TX CA bs SB i v w) : bcV g0 g1 TX CA bs SB i v w' := by
  by_cases e13 : i = 13
  · subst e13
    obtain ⟨A', n', c', h1, h2⟩ := h
    exact ⟨A', n', c', h1, (h2.below hb).more hb.size⟩
  by_cases e16 : i = 16
  · subst e16
    obtain ⟨A', n', c', h1, h2⟩ := h
    exact ⟨A', n', c', h1, (h2.below hb).more hb.size⟩
  unfold bcV at h ⊢
  split at h <;> first | exact h | exact absurd rfl (by assumption)
def bcT : List (Option Nat) := [none, none, none, none, none, none, none, none, none, none, none, none, none, none, none, none, none, none, none, none, none, some 0, some 1, some 2, some 3, some 4, some 5, some 6, some 7, some 8, some 9, some 10, some 11, some 12, some 13, some 14, some 15, some 16, some 17, some 18, some 19, none, none, none, none, none, none, none, none, none, none, none, none, none, none, none, none, none, none, none, none, none, none, none, none, none, none, none, none, none, none, none, none, none, none, none, none, none, none, none, none, none, none]
set_option maxRecDepth 100000 in
set_option maxHeartbeats 4000000 in
theorem back_long (s : Bool) (b : List Int) (S0 : ByteArray) (w : World) (hg : Gb w) (h2 : 200 < S0.size) :
    Calls Tryd.prog 5 #[.agg (adrV s b), .string S0] w (Ret w (.bool true)) := by
  obtain ⟨W, hW⟩ : ∃ W, W = w.alloc (.cells (adrV s b) 24) := ⟨_, rfl⟩
  have HB_W := Lib.hid (show Below w.heap.size w W by rw [hW]; exact alloc_below _ _)
  have HA := Lib.hid (alive_any W (hg.below HB_W.out))
  have q1 : (200 : Int) < (S0.size : Int) := by omega
  generalize adrV s b = CA at *
  clear hg h2
  go_enter Tryd.func5, Tryd.ntmps5
  go_upto_region 1 with fail
  rw [← hW]
  clear hW
  go_wp2_with (first
    | (go_at_call 7; (refine HA.out.mono ?_); rintro e w6 ⟨rfl, BB⟩
       have HB_w6 := Lib.hid (HB_W.out.trans (BB.mono HB_W.out.size))
       clear BB))
  go_ret
  exact ⟨rfl, HB_w6.out⟩
set_option maxRecDepth 100000 in
set_option maxHeartbeats 4000000 in
theorem back_walk (s : Bool) (b : List Int) (xs : List Int) (w : World) (hg : Gb w) (hl : b.length = 16) (hy : ∀ x ∈ b, Byte x) (hx : ∀ x ∈ xs, Byte x) (hn : xs.length ≤ 200) :
    Calls Tryd.prog 5 #[.agg (adrV s b), .string (strOfNums xs)] w (Ret w (.bool true)) := by
  have hzv := zeroAdr
  obtain ⟨W, hW⟩ : ∃ W, W = w.alloc (.cells (adrV s b) 24) := ⟨_, rfl⟩
  have R0_W := Lib.hid (show W.heap[w.heap.size]? = some (.cells (adrV s b) 24 (0, 0)) by rw [hW]; exact heap_alloc_new w _)
  have HB_W := Lib.hid (show Below w.heap.size w W by rw [hW]; exact alloc_below _ _)
  have HG_W := Lib.hid (hg.below HB_W.out)
  have UA := Lib.hid (adr_info s hl)
  have T1 := Lib.hid (fun w' (h : Gb w') => ctext_any s b w' h hl hy)
  have P1 := Lib.hid (fun w' (h : Gb w') => (show Calls Tryd.prog 17 #[.string (strOfNums (ctextL s b))] w' fun e w'' => e = .returned (.tuple #[.agg (adrV s (canL s b)), .int .i64 0]) ∧ Below w'.heap.size w' w'' by
    have h1 := cparse_any (ctextL s b) w' h (ctext_byte s b) (by have := ctext_small (s := s) hl hy; omega)
    rw [back_any s hl hy] at h1
    exact h1))
  have P2 := Lib.hid (fun w' (h : Gb w') => cparse_any xs w' h hx (by omega))
  have lc := can_len s hl
  have UX := Lib.hid (And.intro (adr_info s lc) (And.intro (z_size s lc) (adrV_one s (canL s b))))
  have B1 := Lib.hid (fun w' => cbytes_any s b w' hl)
  have B2 := Lib.hid (fun w' => (show Calls Tryd.prog 13 #[.agg (adrV s (canL s b))] w' (BytRet w' (adrL s b)) by
    have h1 := cbytes_any s (canL s b) w' lc
    rw [can_bytes s hl] at h1; exact h1))
  have M1 := Lib.hid (fun w' => cmay_any s b w' hl)
  have hmay := Lib.hid (fun h => can_may (s := s) hl h)
  have EQ0 := Lib.hid (fun w' => eqa_self s lc w')
  have RD := Lib.hid (fun s b h => read_ok (xs := xs) (s := s) (b := b) h)
  have LB := Lib.hid (fun s b h => len_back (xs := xs) (s := s) (b := b) h)
  obtain ⟨m, hm⟩ : ∃ m, m = xs.length := ⟨_, rfl⟩
  have hsz : (strOfNums xs).size = m := by rw [strOfNums_size, hm]
  have SZ0 := Lib.hid hsz
  have hm2 : (m : Int) ≤ 200 := by omega
  have HM := Lib.hid hm
  obtain ⟨oq, hoq⟩ : ∃ oq, oq = cprsL xs := ⟨_, rfl⟩
  rw [← hoq] at P2
  have HOQ := Lib.hid hoq
  generalize strOfNums xs = S0 at *
  generalize strOfNums (ctextL s b) = T at *
  generalize hSB : strOfNums (adrL s b) = SB at *
  generalize hbs : adrL s b = bs at *
  have SBE : Hid (strOfNums bs = SB) := Lib.hid hSB
  have hmy : Hid (mayL s b = true → adrV s (canL s b) = adrV s b) := Lib.hid fun h => by rw [hmay.out h]
  generalize mayL s b = my at *
  generalize adrV s (canL s b) = TX at *
  generalize adrV s b = CA at *
  clear hg hl hy hx hn lc hSB hbs hoq hm hmay
  go_enter Tryd.func5, Tryd.ntmps5
  go_upto_region 1 with fail
  rw [← hW]
  clear hW
  have ZU := Lib.hid (show _ ∧ True ∧ _ from And.intro z_info (And.intro trivial z_one))
  have ZB := Lib.hid built_zero
  have EQZ := Lib.hid (fun w' => (show (Op.equalIn 10000 24 (.agg zAdr) (.agg zAdr)).run Tryd.prog w' = .ok true w' by have h := eqa_self false (zs_len 16) w'; exact h))
  have N0 : Hid (oq = none → ∀ w' (h : Gb w'), Calls Tryd.prog 17 #[.string S0] w' fun e w'' => e = .returned (.tuple #[.agg zAdr, .int .i64 3]) ∧ Below w'.heap.size w' w'') := Lib.hid fun e w' h => by have h1 := P2.out w' h; rw [e] at h1; exact h1
  have N1 : Hid (∀ s b, oq = some (s, b) → ∀ w' (h : Gb w'), Calls Tryd.prog 17 #[.string S0] w' fun e w'' => e = .returned (.tuple #[.agg (adrV s b), .int .i64 0]) ∧ Below w'.heap.size w' w'') := Lib.hid fun s b e w' h => by have h1 := P2.out w' h; rw [e] at h1; exact h1
  have UF := Lib.hid (fun (s : Bool) (b : List Int) (h : b.length = 16) => And.intro (adr_info s h) (And.intro (z_size s h) (adrV_one s b)))
  generalize zAdr = Z at *
  clear P2
  go_upto_region 4 with (first
    | (refine wpList_load_row rfl 24 (.tmp 2) rfl w.heap.size rfl _ _ _ _ R0_W.out Tryd.underlying24 rfl UA.out ?_)
    | (go_at_call 19; (with_reducible refine (T1.out _ HG_W.out).mono ?_); rintro e t1 ⟨rfl, BB⟩
       have HB_t1 := Lib.hid (HB_W.out.trans (BB.mono HB_W.out.size))
       have R0_t1 := Lib.hid (show t1.heap[w.heap.size]? = some (.cells CA 24 (0, 0)) by rw [BB.block _ (lt_of_row R0_W.out)]; exact R0_W.out)
       have HG_t1 := Lib.hid (HG_W.out.below BB)
       clear BB)
    | (go_at_call 17; (refine (P1.out _ HG_t1.out).mono ?_); rintro e v1 ⟨rfl, BB⟩
       have HB_v1 := Lib.hid (HB_t1.out.trans (BB.mono HB_t1.out.size))
       have R0_v1 := Lib.hid (show v1.heap[w.heap.size]? = some (.cells CA 24 (0, 0)) by rw [BB.block _ (lt_of_row R0_t1.out)]; exact R0_t1.out)
       have HN_v1 := Lib.hid (show (v1.alloc (.cells Z 24)).heap[v1.heap.size]? = some (.cells Z 24 (0, 0)) from heap_alloc_new _ _)
       have HG_v1 := Lib.hid (HG_t1.out.below BB)
       clear BB)
    | (refine wpList_store_row rfl 24 (.tmp 5) (.tmp 19) rfl v1.heap.size TX rfl rfl _ _ HN_v1.out UX.out.1 UX.out.2.1 UX.out.2.2 ?_))
  rw [World.setRow_alloc_new]
  have HB_W1 := Lib.hid (show Below w.heap.size w (v1.alloc (.cells TX 24)) from HB_v1.out.trans ((alloc_below _ _).mono HB_v1.out.size))
  have R0_W1 := Lib.hid (show (v1.alloc (.cells TX 24)).heap[w.heap.size]? = some (.cells CA 24 (0, 0)) by rw [(alloc_below _ _).block _ (lt_of_row R0_v1.out)]; exact R0_v1.out)
  have RX_W1 := Lib.hid (show (v1.alloc (.cells TX 24)).heap[v1.heap.size]? = some (.cells TX 24 (0, 0)) from heap_alloc_new _ _)
  have HG_W1 := Lib.hid (HG_v1.out.below (alloc_below v1 (.cells TX 24)))
  clear HB_v1 HN_v1 R0_v1 HG_v1
  generalize v1.heap.size = g1 at *
  generalize v1.alloc (.cells TX 24) = W1 at *
  clear R0_t1 HB_t1 HG_t1
  cases my with
  | true =>
    have EQX : Hid (∀ w', (Op.equalIn 10000 24 (.agg TX) (.agg CA)).run Tryd.prog w' = .ok true w') := Lib.hid fun w' => by
      have h := EQ0.out w'
      have e := hmy.out rfl
      rw [← e]; exact h
    refine with_act fun a0 ha0 => ?_
    have hl : baT.length = a0.tmps.size := by rw [ha0]; rfl
    have k2 : a0.tmps[2]?.getD undef = .pointer (some ⟨w.heap.size, 0, none⟩) := by rw [ha0]; rfl
    have k5 : a0.tmps[5]?.getD undef = .pointer (some ⟨g1, 0, none⟩) := by rw [ha0]; rfl
    have k6 : a0.tmps[6]?.getD undef = .int .i64 0 := by rw [ha0]; rfl
    refine wp_region_vals (by kernel_rfl) baT (by kernel_rfl) (by kernel_rfl) hl (fun i => undef) (by rw [ha0]; rfl) (Gr W1) (baV w.heap.size g1 TX CA bs SB) (gr_drew _) (baV.keep _ _ _ _ _ _) ⟨?_, ?_, ?_, ?_, ?_, ?_, ?_, ?_, ?_, ?_, ?_, ?_, ?_, ?_, ?_, ?_, ?_, ?_, ?_, ?_, trivial⟩ ?_
    · refine step_plain [] (by kernel_rfl) rfl fun us w' hG hV => ?_
      have o6 := (frame_old2 (us := us) (a := a0) (show (baT[6]?).join = none from rfl)).trans k6
      generalize frame baT a0 us = fr at *
      exact val_ok (v := .int .i64 0) (w' := w') (by go_simp) hG (Below.refl _ _) rfl
    · refine step_plain [0] (by kernel_rfl) rfl fun us w' hG hV => ?_
      have e0 : us 0 = .int .i64 0 := hV 0 (by simp)
      have v0 := (frame_at2 (us := us) hl (show (baT[21]?).join = some 0 from rfl)).trans e0
      generalize frame baT a0 us = fr at *
      exact val_ok (v := .bool false) (w' := w') (by go_simp) hG (Below.refl _ _) rfl
    · refine step_plain [1] (by kernel_rfl) rfl fun us w' hG hV => ?_
      have e1 : us 1 = .bool false := hV 1 (by simp)
      have v1 := (frame_at2 (us := us) hl (show (baT[22]?).join = some 1 from rfl)).trans e1
      generalize frame baT a0 us = fr at *
      exact val_ok (v := .bool false) (w' := w') (by go_simp) hG (Below.refl _ _) rfl
    · refine step_guard [2] (by kernel_rfl) (j := 2) (t := 23) (b := false) rfl (by simp) rfl hl rfl (fun v w h => h) fun us w' hG hV => ?_
      have o2 := (frame_old2 (us := us) (a := a0) (show (baT[2]?).join = none from rfl)).trans k2
      have hg1 := hG.row R0_W1.out
      generalize frame baT a0 us = fr at *
      exact load_ok 24 2 rfl (w.heap.size) o2 _ _ (0, 0) _ hg1 Tryd.underlying24 rfl UA.out hG rfl
    · refine step_guard [2, 3] (by kernel_rfl) (j := 2) (t := 23) (b := false) rfl (by simp) rfl hl rfl (fun v w h => h) fun us w' hG hV => ?_
      have e3 : us 3 = .agg CA := hV 3 (by simp)
      have v3 := (frame_at2 (us := us) hl (show (baT[24]?).join = some 3 from rfl)).trans e3
      generalize frame baT a0 us = fr at *
      exact call_ok (f := 15) (args := #[.agg CA]) (by go_simp) ((M1.out w').mono fun e w'' h => ⟨_, h.1, hG.below h.2, h.2, rfl⟩)
    · refine step_guard [2, 4] (by kernel_rfl) (j := 2) (t := 23) (b := false) rfl (by simp) rfl hl rfl (fun v w h => h) fun us w' hG hV => ?_
      have e4 : us 4 = .bool true := hV 4 (by simp)
      have v4 := (frame_at2 (us := us) hl (show (baT[25]?).join = some 4 from rfl)).trans e4
      generalize frame baT a0 us = fr at *
      exact val_ok (v := .bool true) (w' := w') (by go_simp) hG (Below.refl _ _) rfl
    · refine step_guard [5] (by kernel_rfl) (j := 5) (t := 26) (b := true) rfl (by simp) rfl hl rfl (fun v w h => h) fun us w' hG hV => ?_
      have o5 := (frame_old2 (us := us) (a := a0) (show (baT[5]?).join = none from rfl)).trans k5
      have hg1 := hG.row RX_W1.out
      generalize frame baT a0 us = fr at *
      exact load_ok 24 5 rfl (g1) o5 _ _ (0, 0) _ hg1 Tryd.underlying24 rfl UX.out.1 hG rfl
    · refine step_guard [5] (by kernel_rfl) (j := 5) (t := 26) (b := true) rfl (by simp) rfl hl rfl (fun v w h => h) fun us w' hG hV => ?_
      have o2 := (frame_old2 (us := us) (a := a0) (show (baT[2]?).join = none from rfl)).trans k2
      have hg1 := hG.row R0_W1.out
      generalize frame baT a0 us = fr at *
      exact load_ok 24 2 rfl (w.heap.size) o2 _ _ (0, 0) _ hg1 Tryd.underlying24 rfl UA.out hG rfl
    · refine step_guard [5, 6, 7] (by kernel_rfl) (j := 5) (t := 26) (b := true) rfl (by simp) rfl hl rfl (fun v w h => h) fun us w' hG hV => ?_
      have e6 : us 6 = .agg TX := hV 6 (by simp)
      have v6 := (frame_at2 (us := us) hl (show (baT[27]?).join = some 6 from rfl)).trans e6
      have e7 : us 7 = .agg CA := hV 7 (by simp)
      have v7 := (frame_at2 (us := us) hl (show (baT[28]?).join = some 7 from rfl)).trans e7
      generalize frame baT a0 us = fr at *
      exact val_ok (v := .bool !true) (w' := w') (neqA_run rfl v6 v7 (EQX.out w') guard_addr) hG (Below.refl _ _) rfl
    · refine step_guard [2, 5, 8] (by kernel_rfl) (j := 2) (t := 23) (b := false) rfl (by simp) rfl hl rfl (fun v w h => h) fun us w' hG hV => ?_
      have e5 : us 5 = .bool true := hV 5 (by simp)
      have v5 := (frame_at2 (us := us) hl (show (baT[26]?).join = some 5 from rfl)).trans e5
      have e8 : us 8 = .bool !true := hV 8 (by simp)
      have v8 := (frame_at2 (us := us) hl (show (baT[29]?).join = some 8 from rfl)).trans e8
      simp only [Bool.not_true] at v8
      generalize frame baT a0 us = fr at *
      exact val_ok (v := .bool false) (w' := w') (by go_simp) hG (Below.refl _ _) rfl
    · refine step_plain [2, 9] (by kernel_rfl) rfl fun us w' hG hV => ?_
      have e2 : us 2 = .bool false := hV 2 (by simp)
      have v2 := (frame_at2 (us := us) hl (show (baT[23]?).join = some 2 from rfl)).trans e2
      have e9 : us 9 = .bool false := hV 9 (by simp)
      have v9 := (frame_at2 (us := us) hl (show (baT[30]?).join = some 9 from rfl)).trans e9
      generalize frame baT a0 us = fr at *
      exact val_ok (v := .bool false) (w' := w') (by go_simp) hG (Below.refl _ _) rfl
    · refine step_plain [10] (by kernel_rfl) rfl fun us w' hG hV => ?_
      have e10 : us 10 = .bool false := hV 10 (by simp)
      have v10 := (frame_at2 (us := us) hl (show (baT[31]?).join = some 10 from rfl)).trans e10
      generalize frame baT a0 us = fr at *
      exact val_ok (v := .bool false) (w' := w') (by go_simp) hG (Below.refl _ _) rfl
    · refine step_guard [11] (by kernel_rfl) (j := 11) (t := 32) (b := false) rfl (by simp) rfl hl rfl (fun v w h => h) fun us w' hG hV => ?_
      have o5 := (frame_old2 (us := us) (a := a0) (show (baT[5]?).join = none from rfl)).trans k5
      have hg1 := hG.row RX_W1.out
      generalize frame baT a0 us = fr at *
      exact load_ok 24 5 rfl (g1) o5 _ _ (0, 0) _ hg1 Tryd.underlying24 rfl UX.out.1 hG rfl
    · refine step_guard [11, 12] (by kernel_rfl) (j := 11) (t := 32) (b := false) rfl (by simp) rfl hl rfl (fun v w h => h) fun us w' hG hV => ?_
      have e12 : us 12 = .agg TX := hV 12 (by simp)
      have v12 := (frame_at2 (us := us) hl (show (baT[33]?).join = some 12 from rfl)).trans e12
      generalize frame baT a0 us = fr at *
      exact call_ok (f := 13) (args := #[.agg TX]) (by go_simp) (bytRet_call (P := fun _ => True) hG (B2.out w'))
    · refine step_guard [11, 13] (by kernel_rfl) (j := 11) (t := 32) (b := false) rfl (by simp) rfl hl rfl (fun v w h => h) fun us w' hG hV => ?_
      obtain ⟨A13, n13, c13, e13, N13⟩ := (show ∃ A n c, us 13 = .slice A n c ∧ Nums .u8 w' w'.heap.size A n bs from hV 13 (by simp))
      have v13 := (frame_at2 (us := us) hl (show (baT[34]?).join = some 13 from rfl)).trans e13
      have hcv := run_string N13 c13 25 5 9 Tryd.underlying25 Tryd.underlying5 Tryd.underlying9
      rw [SBE.out] at hcv
      generalize frame baT a0 us = fr at *
      exact val_ok (v := .string SB) (w' := w') (by go_simp) hG (Below.refl _ _) rfl
    · refine step_guard [11] (by kernel_rfl) (j := 11) (t := 32) (b := false) rfl (by simp) rfl hl rfl (fun v w h => h) fun us w' hG hV => ?_
      have o2 := (frame_old2 (us := us) (a := a0) (show (baT[2]?).join = none from rfl)).trans k2
      have hg1 := hG.row R0_W1.out
      generalize frame baT a0 us = fr at *
      exact load_ok 24 2 rfl (w.heap.size) o2 _ _ (0, 0) _ hg1 Tryd.underlying24 rfl UA.out hG rfl
    · refine step_guard [11, 15] (by kernel_rfl) (j := 11) (t := 32) (b := false) rfl (by simp) rfl hl rfl (fun v w h => h) fun us w' hG hV => ?_
      have e15 : us 15 = .agg CA := hV 15 (by simp)
      have v15 := (frame_at2 (us := us) hl (show (baT[36]?).join = some 15 from rfl)).trans e15
      generalize frame baT a0 us = fr at *
      exact call_ok (f := 13) (args := #[.agg CA]) (by go_simp) (bytRet_call (P := fun _ => True) hG (B1.out w'))
    · refine step_guard [11, 16] (by kernel_rfl) (j := 11) (t := 32) (b := false) rfl (by simp) rfl hl rfl (fun v w h => h) fun us w' hG hV => ?_
      obtain ⟨A16, n16, c16, e16, N16⟩ := (show ∃ A n c, us 16 = .slice A n c ∧ Nums .u8 w' w'.heap.size A n bs from hV 16 (by simp))
      have v16 := (frame_at2 (us := us) hl (show (baT[37]?).join = some 16 from rfl)).trans e16
      have hcv := run_string N16 c16 25 5 9 Tryd.underlying25 Tryd.underlying5 Tryd.underlying9
      rw [SBE.out] at hcv
      generalize frame baT a0 us = fr at *
      exact val_ok (v := .string SB) (w' := w') (by go_simp) hG (Below.refl _ _) rfl
    · refine step_guard [11, 14, 17] (by kernel_rfl) (j := 11) (t := 32) (b := false) rfl (by simp) rfl hl rfl (fun v w h => h) fun us w' hG hV => ?_
      have e14 : us 14 = .string SB := hV 14 (by simp)
      have v14 := (frame_at2 (us := us) hl (show (baT[35]?).join = some 14 from rfl)).trans e14
      have e17 : us 17 = .string SB := hV 17 (by simp)
      have v17 := (frame_at2 (us := us) hl (show (baT[38]?).join = some 17 from rfl)).trans e17
      generalize frame baT a0 us = fr at *
      exact val_ok (v := .bool false) (w' := w') (snq_run (S := SB) (a := fr) rfl (by simpa only [Act.eval, Array.getD_eq_getD_getElem?] using v14) (by simpa only [Act.eval, Array.getD_eq_getD_getElem?] using v17)) hG (Below.refl _ _) rfl
    · refine step_plain [11, 18] (by kernel_rfl) rfl fun us w' hG hV => ?_
      have e11 : us 11 = .bool false := hV 11 (by simp)
      have v11 := (frame_at2 (us := us) hl (show (baT[32]?).join = some 11 from rfl)).trans e11
      have e18 : us 18 = .bool false := hV 18 (by simp)
      have v18 := (frame_at2 (us := us) hl (show (baT[39]?).join = some 18 from rfl)).trans e18
      generalize frame baT a0 us = fr at *
      exact val_ok (v := .bool false) (w' := w') (by go_simp) hG (Below.refl _ _) rfl
    · intro us w2 hG hV
      have eL : us 19 = .bool false := hV 19 (by decide)
      subst ha0
      simp only [frame, baT, fill]
      rw [eL]
      clear hV hl eL
      have HB_w2 := Lib.hid (HB_W1.out.trans (hG.mono HB_W1.out.size))
      have HG_w2 := Lib.hid (HG_W1.out.below hG)
      clear hG
      cases oq with
      | none =>
        go_upto_region 7 with (first
          | (go_at_call 17; (refine (N0.out rfl _ HG_w2.out).mono ?_); rintro e v2 ⟨rfl, BB⟩
             have HB_v2 := Lib.hid (HB_w2.out.trans (BB.mono HB_w2.out.size))
             have HN_v2 := Lib.hid (show (v2.alloc (.cells Z 24)).heap[v2.heap.size]? = some (.cells Z 24 (0, 0)) from heap_alloc_new _ _)
             have HG_v2 := Lib.hid (HG_w2.out.below BB)
             clear BB)
          | (refine wpList_store_row rfl 24 (.tmp 7) (.tmp 44) rfl v2.heap.size Z rfl rfl _ _ HN_v2.out ZU.out.1 rfl ZU.out.2.2 ?_))
        rw [World.setRow_alloc_new]
        have HB_W2 := Lib.hid (show Below w.heap.size w (v2.alloc (.cells Z 24)) from HB_v2.out.trans ((alloc_below _ _).mono HB_v2.out.size))
        have RY_W2 := Lib.hid (show (v2.alloc (.cells Z 24)).heap[v2.heap.size]? = some (.cells Z 24 (0, 0)) from heap_alloc_new _ _)
        have HG_W2 := Lib.hid (HG_v2.out.below (alloc_below v2 (.cells Z 24)))
        clear HB_v2 HN_v2 HG_v2
        generalize v2.heap.size = g2 at *
        generalize v2.alloc (.cells Z 24) = W2 at *
        go_wp2_with (first
          | (refine wpList_load_rowG (by rfl) 24 (.tmp 7) rfl (g2) rfl _ _ _ _ RY_W2.out Tryd.underlying24 rfl ZU.out.1 ?_)
          | (refine wpList_zero rfl 24 rfl Z ZB.out ?_)
          | (refine wpList_runG (by rfl) _ (eq_run rfl (by rfl) (by rfl) (EQZ.out _) guard_addr) ?_)
          | (go_at_call 7; (refine (alive_any _ HG_W2.out).mono ?_); rintro e w6 ⟨rfl, BB⟩
             have HB_w6 := Lib.hid (HB_W2.out.trans (BB.mono HB_W2.out.size))
             clear BB))
        go_ret
        exact ⟨rfl, HB_w6.out⟩
      | some q =>
        obtain ⟨s2, b2⟩ := q
        obtain ⟨l2, y2, m2⟩ := RD.out s2 b2 HOQ.out.symm
        have hk2 := LB.out s2 b2 HOQ.out.symm
        have N1' := Lib.hid (N1.out s2 b2 rfl)
        have T2 := Lib.hid (fun w' (h : Gb w') => ctext_any s2 b2 w' h l2 y2)
        have P3 := Lib.hid (fun w' (h : Gb w') => (show Calls Tryd.prog 17 #[.string (strOfNums (ctextL s2 b2))] w' fun e w'' => e = .returned (.tuple #[.agg (adrV s2 b2), .int .i64 0]) ∧ Below w'.heap.size w' w'' by
          have h1 := cparse_any (ctextL s2 b2) w' h (ctext_byte s2 b2) (by have := ctext_small (s := s2) l2 y2; omega)
          rw [back_any s2 l2 y2, can_may l2 m2] at h1
          exact h1))
        have M3 := Lib.hid (fun w' => (show Calls Tryd.prog 15 #[.agg (adrV s2 b2)] w' (Ret w' (.bool true)) by
          have h1 := cmay_any s2 b2 w' l2
          rw [m2] at h1; exact h1))
        have UY := Lib.hid (UF.out s2 b2 l2)
        have EQY := Lib.hid (fun w' => eqa_self s2 l2 w')
        obtain ⟨k, hk⟩ : ∃ k, k = (ctextL s2 b2).length := ⟨_, rfl⟩
        have SZ2 := Lib.hid (show (strOfNums (ctextL s2 b2)).size = k by rw [strOfNums_size, hk])
        obtain ⟨j, hj⟩ : ∃ j, j = m + 1 := ⟨_, rfl⟩
        have HJ := Lib.hid (And.intro (show (m : Int) + 1 = (j : Int) by omega) (show IntKind.i64.wrap (j : Int) = (j : Int) from IntWalk.i64_in _ (by omega)))
        have HLE := Lib.hid (show (k : Int) ≤ (j : Int) by have := HM.out; omega)
        clear hk2 hk hj l2 y2 m2
        generalize strOfNums (ctextL s2 b2) = S2 at *
        generalize adrV s2 b2 = TY at *
        go_upto_region 7 with (first
          | (go_at_call 17; (refine (N1'.out _ HG_w2.out).mono ?_); rintro e v2 ⟨rfl, BB⟩
             have HB_v2 := Lib.hid (HB_w2.out.trans (BB.mono HB_w2.out.size))
             have HN_v2 := Lib.hid (show (v2.alloc (.cells Z 24)).heap[v2.heap.size]? = some (.cells Z 24 (0, 0)) from heap_alloc_new _ _)
             have HG_v2 := Lib.hid (HG_w2.out.below BB)
             clear BB)
          | (refine wpList_store_row rfl 24 (.tmp 7) (.tmp 44) rfl v2.heap.size TY rfl rfl _ _ HN_v2.out UY.out.1 UY.out.2.1 UY.out.2.2 ?_))
        rw [World.setRow_alloc_new]
        have HB_W2 := Lib.hid (show Below w.heap.size w (v2.alloc (.cells TY 24)) from HB_v2.out.trans ((alloc_below _ _).mono HB_v2.out.size))
        have RY_W2 := Lib.hid (show (v2.alloc (.cells TY 24)).heap[v2.heap.size]? = some (.cells TY 24 (0, 0)) from heap_alloc_new _ _)
        have HG_W2 := Lib.hid (HG_v2.out.below (alloc_below v2 (.cells TY 24)))
        clear HB_v2 HN_v2 HG_v2
        generalize v2.heap.size = g2 at *
        generalize v2.alloc (.cells TY 24) = W2 at *
        go_upto_region 10 with (first
          | (refine wpList_load_row rfl 24 (.tmp 7) rfl g2 rfl _ _ _ _ RY_W2.out Tryd.underlying24 rfl UY.out.1 ?_)
          | (go_at_call 19; (with_reducible refine (T2.out _ HG_W2.out).mono ?_); rintro e t2 ⟨rfl, BB⟩
             have HB_t2 := Lib.hid (HB_W2.out.trans (BB.mono HB_W2.out.size))
             have RY_t2 := Lib.hid (show t2.heap[g2]? = some (.cells TY 24 (0, 0)) by rw [BB.block _ (lt_of_row RY_W2.out)]; exact RY_W2.out)
             have HG_t2 := Lib.hid (HG_W2.out.below BB)
             clear BB)
          | (go_at_call 17; (refine (P3.out _ HG_t2.out).mono ?_); rintro e v3 ⟨rfl, BB⟩
             have HB_v3 := Lib.hid (HB_t2.out.trans (BB.mono HB_t2.out.size))
             have RY_v3 := Lib.hid (show v3.heap[g2]? = some (.cells TY 24 (0, 0)) by rw [BB.block _ (lt_of_row RY_t2.out)]; exact RY_t2.out)
             have HN_v3 := Lib.hid (show (v3.alloc (.cells Z 24)).heap[v3.heap.size]? = some (.cells Z 24 (0, 0)) from heap_alloc_new _ _)
             have HG_v3 := Lib.hid (HG_t2.out.below BB)
             clear BB)
          | (refine wpList_store_row rfl 24 (.tmp 9) (.tmp 58) rfl v3.heap.size TY rfl rfl _ _ HN_v3.out UY.out.1 UY.out.2.1 UY.out.2.2 ?_))
        rw [World.setRow_alloc_new]
        have HB_W3 := Lib.hid (show Below w.heap.size w (v3.alloc (.cells TY 24)) from HB_v3.out.trans ((alloc_below _ _).mono HB_v3.out.size))
        have RY_W3 := Lib.hid (show (v3.alloc (.cells TY 24)).heap[g2]? = some (.cells TY 24 (0, 0)) by rw [(alloc_below _ _).block _ (lt_of_row RY_v3.out)]; exact RY_v3.out)
        have RZ_W3 := Lib.hid (show (v3.alloc (.cells TY 24)).heap[v3.heap.size]? = some (.cells TY 24 (0, 0)) from heap_alloc_new _ _)
        have HG_W3 := Lib.hid (HG_v3.out.below (alloc_below v3 (.cells TY 24)))
        clear HB_v3 HN_v3 RY_v3 HG_v3
        generalize v3.heap.size = g3 at *
        generalize v3.alloc (.cells TY 24) = W3 at *
        clear RY_t2 HB_t2 HG_t2
        have z1 := SZ2.out
        have z2 := SZ0.out
        have z3 := HJ.out.1
        have z4 := HLE.out
        have z5 : (m : Int) ≤ 200 := by omega
        go_wp2_with (first
          | (refine wpList_load_rowG (by rfl) 24 (.tmp 7) rfl (g2) rfl _ _ _ _ RY_W3.out Tryd.underlying24 rfl UY.out.1 ?_)
          | (go_at_call 15; (with_reducible refine (M3.out _).mono ?_); rintro e w7 ⟨rfl, BB⟩
             have HB_w7 := Lib.hid (HB_W3.out.trans (BB.mono HB_W3.out.size))
             have RY_w7 := Lib.hid (show w7.heap[g2]? = some (.cells TY 24 (0, 0)) by rw [BB.block _ (lt_of_row RY_W3.out)]; exact RY_W3.out)
             have RZ_w7 := Lib.hid (show w7.heap[g3]? = some (.cells TY 24 (0, 0)) by rw [BB.block _ (lt_of_row RZ_W3.out)]; exact RZ_W3.out)
             have HG_w7 := Lib.hid (HG_W3.out.below BB)
             clear BB)
          | (refine wpList_load_rowG (by rfl) 24 (.tmp 9) rfl (g3) rfl _ _ _ _ RZ_w7.out Tryd.underlying24 rfl UY.out.1 ?_)
          | (refine wpList_load_rowG (by rfl) 24 (.tmp 7) rfl (g2) rfl _ _ _ _ RY_w7.out Tryd.underlying24 rfl UY.out.1 ?_)
          | (refine wpList_runG (by rfl) _ (eq_run rfl (by rfl) (by rfl) (EQY.out _) guard_addr) ?_)
          | (go_at_call 19; (with_reducible refine (T2.out _ HG_w7.out).mono ?_); rintro e w8 ⟨rfl, BB⟩
             have HB_w8 := Lib.hid (HB_w7.out.trans (BB.mono HB_w7.out.size))
             have RY_w8 := Lib.hid (show w8.heap[g2]? = some (.cells TY 24 (0, 0)) by rw [BB.block _ (lt_of_row RY_w7.out)]; exact RY_w7.out)
             have RZ_w8 := Lib.hid (show w8.heap[g3]? = some (.cells TY 24 (0, 0)) by rw [BB.block _ (lt_of_row RZ_w7.out)]; exact RZ_w7.out)
             have HG_w8 := Lib.hid (HG_w7.out.below BB)
             clear BB)
          | (go_at_call 7; (refine (alive_any _ HG_w8.out).mono ?_); rintro e w9 ⟨rfl, BB⟩
             have HB_w9 := Lib.hid (HB_w8.out.trans (BB.mono HB_w8.out.size))
             clear BB))
        go_ret
        exact ⟨rfl, HB_w9.out⟩
  | false =>
    refine with_act fun a0 ha0 => ?_
    have hl : bcT.length = a0.tmps.size := by rw [ha0]; rfl
    have k2 : a0.tmps[2]?.getD undef = .pointer (some ⟨w.heap.size, 0, none⟩) := by rw [ha0]; rfl
    have k5 : a0.tmps[5]?.getD undef = .pointer (some ⟨g1, 0, none⟩) := by rw [ha0]; rfl
    have k6 : a0.tmps[6]?.getD undef = .int .i64 0 := by rw [ha0]; rfl
    refine wp_region_vals (by kernel_rfl) bcT (by kernel_rfl) (by kernel_rfl) hl (fun i => undef) (by rw [ha0]; rfl) (Gr W1) (bcV w.heap.size g1 TX CA bs SB) (gr_drew _) (bcV.keep _ _ _ _ _ _) ⟨?_, ?_, ?_, ?_, ?_, ?_, ?_, ?_, ?_, ?_, ?_, ?_, ?_, ?_, ?_, ?_, ?_, ?_, ?_, ?_, trivial⟩ ?_
    · refine step_plain [] (by kernel_rfl) rfl fun us w' hG hV => ?_
      have o6 := (frame_old2 (us := us) (a := a0) (show (bcT[6]?).join = none from rfl)).trans k6
      generalize frame bcT a0 us = fr at *
      exact val_ok (v := .int .i64 0) (w' := w') (by go_simp) hG (Below.refl _ _) rfl
    · refine step_plain [0] (by kernel_rfl) rfl fun us w' hG hV => ?_
      have e0 : us 0 = .int .i64 0 := hV 0 (by simp)
      have v0 := (frame_at2 (us := us) hl (show (bcT[21]?).join = some 0 from rfl)).trans e0
      generalize frame bcT a0 us = fr at *
      exact val_ok (v := .bool false) (w' := w') (by go_simp) hG (Below.refl _ _) rfl
    · refine step_plain [1] (by kernel_rfl) rfl fun us w' hG hV => ?_
      have e1 : us 1 = .bool false := hV 1 (by simp)
      have v1 := (frame_at2 (us := us) hl (show (bcT[22]?).join = some 1 from rfl)).trans e1
      generalize frame bcT a0 us = fr at *
      exact val_ok (v := .bool false) (w' := w') (by go_simp) hG (Below.refl _ _) rfl
    · refine step_guard [2] (by kernel_rfl) (j := 2) (t := 23) (b := false) rfl (by simp) rfl hl rfl (fun v w h => h) fun us w' hG hV => ?_
      have o2 := (frame_old2 (us := us) (a := a0) (show (bcT[2]?).join = none from rfl)).trans k2
      have hg1 := hG.row R0_W1.out
      generalize frame bcT a0 us = fr at *
      exact load_ok 24 2 rfl (w.heap.size) o2 _ _ (0, 0) _ hg1 Tryd.underlying24 rfl UA.out hG rfl
    · refine step_guard [2, 3] (by kernel_rfl) (j := 2) (t := 23) (b := false) rfl (by simp) rfl hl rfl (fun v w h => h) fun us w' hG hV => ?_
      have e3 : us 3 = .agg CA := hV 3 (by simp)
      have v3 := (frame_at2 (us := us) hl (show (bcT[24]?).join = some 3 from rfl)).trans e3
      generalize frame bcT a0 us = fr at *
      exact call_ok (f := 15) (args := #[.agg CA]) (by go_simp) ((M1.out w').mono fun e w'' h => ⟨_, h.1, hG.below h.2, h.2, rfl⟩)
    · refine step_guard [2, 4] (by kernel_rfl) (j := 2) (t := 23) (b := false) rfl (by simp) rfl hl rfl (fun v w h => h) fun us w' hG hV => ?_
      have e4 : us 4 = .bool false := hV 4 (by simp)
      have v4 := (frame_at2 (us := us) hl (show (bcT[25]?).join = some 4 from rfl)).trans e4
      generalize frame bcT a0 us = fr at *
      exact val_ok (v := .bool false) (w' := w') (by go_simp) hG (Below.refl _ _) rfl
    · refine step_cond [5] (by kernel_rfl) (j := 5) (t := 26) rfl (by simp) rfl hl rfl false (fun v w h => h) (fun _ w => trivial) fun hc => by cases hc
    · refine step_cond [5] (by kernel_rfl) (j := 5) (t := 26) rfl (by simp) rfl hl rfl false (fun v w h => h) (fun _ w => trivial) fun hc => by cases hc
    · refine step_cond [5] (by kernel_rfl) (j := 5) (t := 26) rfl (by simp) rfl hl rfl false (fun v w h => h) (fun _ w => trivial) fun hc => by cases hc
    · refine step_guard [2, 5] (by kernel_rfl) (j := 2) (t := 23) (b := false) rfl (by simp) rfl hl rfl (fun v w h => h) fun us w' hG hV => ?_
      have e5 : us 5 = .bool false := hV 5 (by simp)
      have v5 := (frame_at2 (us := us) hl (show (bcT[26]?).join = some 5 from rfl)).trans e5
      generalize frame bcT a0 us = fr at *
      exact val_ok (v := .bool false) (w' := w') (by go_simp) hG (Below.refl _ _) rfl
    · refine step_plain [2, 9] (by kernel_rfl) rfl fun us w' hG hV => ?_
      have e2 : us 2 = .bool false := hV 2 (by simp)
      have v2 := (frame_at2 (us := us) hl (show (bcT[23]?).join = some 2 from rfl)).trans e2
      have e9 : us 9 = .bool false := hV 9 (by simp)
      have v9 := (frame_at2 (us := us) hl (show (bcT[30]?).join = some 9 from rfl)).trans e9
      generalize frame bcT a0 us = fr at *
      exact val_ok (v := .bool false) (w' := w') (by go_simp) hG (Below.refl _ _) rfl
    · refine step_plain [10] (by kernel_rfl) rfl fun us w' hG hV => ?_
      have e10 : us 10 = .bool false := hV 10 (by simp)
      have v10 := (frame_at2 (us := us) hl (show (bcT[31]?).join = some 10 from rfl)).trans e10
      generalize frame bcT a0 us = fr at *
      exact val_ok (v := .bool false) (w' := w') (by go_simp) hG (Below.refl _ _) rfl
    · refine step_guard [11] (by kernel_rfl) (j := 11) (t := 32) (b := false) rfl (by simp) rfl hl rfl (fun v w h => h) fun us w' hG hV => ?_
      have o5 := (frame_old2 (us := us) (a := a0) (show (bcT[5]?).join = none from rfl)).trans k5
      have hg1 := hG.row RX_W1.out
      generalize frame bcT a0 us = fr at *
      exact load_ok 24 5 rfl (g1) o5 _ _ (0, 0) _ hg1 Tryd.underlying24 rfl UX.out.1 hG rfl
    · refine step_guard [11, 12] (by kernel_rfl) (j := 11) (t := 32) (b := false) rfl (by simp) rfl hl rfl (fun v w h => h) fun us w' hG hV => ?_
      have e12 : us 12 = .agg TX := hV 12 (by simp)
      have v12 := (frame_at2 (us := us) hl (show (bcT[33]?).join = some 12 from rfl)).trans e12
      generalize frame bcT a0 us = fr at *
      exact call_ok (f := 13) (args := #[.agg TX]) (by go_simp) (bytRet_call (P := fun _ => True) hG (B2.out w'))
    · refine step_guard [11, 13] (by kernel_rfl) (j := 11) (t := 32) (b := false) rfl (by simp) rfl hl rfl (fun v w h => h) fun us w' hG hV => ?_
      obtain ⟨A13, n13, c13, e13, N13⟩ := (show ∃ A n c, us 13 = .slice A n c ∧ Nums .u8 w' w'.heap.size A n bs from hV 13 (by simp))
      have v13 := (frame_at2 (us := us) hl (show (bcT[34]?).join = some 13 from rfl)).trans e13
      have hcv := run_string N13 c13 25 5 9 Tryd.underlying25 Tryd.underlying5 Tryd.underlying9
      rw [SBE.out] at hcv
      generalize frame bcT a0 us = fr at *
      exact val_ok (v := .string SB) (w' := w') (by go_simp) hG (Below.refl _ _) rfl
    · refine step_guard [11] (by kernel_rfl) (j := 11) (t := 32) (b := false) rfl (by simp) rfl hl rfl (fun v w h => h) fun us w' hG hV => ?_
      have o2 := (frame_old2 (us := us) (a := a0) (show (bcT[2]?).join = none from rfl)).trans k2
      have hg1 := hG.row R0_W1.out
      generalize frame bcT a0 us = fr at *
      exact load_ok 24 2 rfl (w.heap.size) o2 _ _ (0, 0) _ hg1 Tryd.underlying24 rfl UA.out hG rfl
    · refine step_guard [11, 15] (by kernel_rfl) (j := 11) (t := 32) (b := false) rfl (by simp) rfl hl rfl (fun v w h => h) fun us w' hG hV => ?_
      have e15 : us 15 = .agg CA := hV 15 (by simp)
      have v15 := (frame_at2 (us := us) hl (show (bcT[36]?).join = some 15 from rfl)).trans e15
      generalize frame bcT a0 us = fr at *
      exact call_ok (f := 13) (args := #[.agg CA]) (by go_simp) (bytRet_call (P := fun _ => True) hG (B1.out w'))
    · refine step_guard [11, 16] (by kernel_rfl) (j := 11) (t := 32) (b := false) rfl (by simp) rfl hl rfl (fun v w h => h) fun us w' hG hV => ?_
      obtain ⟨A16, n16, c16, e16, N16⟩ := (show ∃ A n c, us 16 = .slice A n c ∧ Nums .u8 w' w'.heap.size A n bs from hV 16 (by simp))
      have v16 := (frame_at2 (us := us) hl (show (bcT[37]?).join = some 16 from rfl)).trans e16
      have hcv := run_string N16 c16 25 5 9 Tryd.underlying25 Tryd.underlying5 Tryd.underlying9
      rw [SBE.out] at hcv
      generalize frame bcT a0 us = fr at *
      exact val_ok (v := .string SB) (w' := w') (by go_simp) hG (Below.refl _ _) rfl
    · refine step_guard [11, 14, 17] (by kernel_rfl) (j := 11) (t := 32) (b := false) rfl (by simp) rfl hl rfl (fun v w h => h) fun us w' hG hV => ?_
      have e14 : us 14 = .string SB := hV 14 (by simp)
      have v14 := (frame_at2 (us := us) hl (show (bcT[35]?).join = some 14 from rfl)).trans e14
      have e17 : us 17 = .string SB := hV 17 (by simp)
      have v17 := (frame_at2 (us := us) hl (show (bcT[38]?).join = some 17 from rfl)).trans e17
      generalize frame bcT a0 us = fr at *
      exact val_ok (v := .bool false) (w' := w') (snq_run (S := SB) (a := fr) rfl (by simpa only [Act.eval, Array.getD_eq_getD_getElem?] using v14) (by simpa only [Act.eval, Array.getD_eq_getD_getElem?] using v17)) hG (Below.refl _ _) rfl
    · refine step_plain [11, 18] (by kernel_rfl) rfl fun us w' hG hV => ?_
      have e11 : us 11 = .bool false := hV 11 (by simp)
      have v11 := (frame_at2 (us := us) hl (show (bcT[32]?).join = some 11 from rfl)).trans e11
      have e18 : us 18 = .bool false := hV 18 (by simp)
      have v18 := (frame_at2 (us := us) hl (show (bcT[39]?).join = some 18 from rfl)).trans e18
      generalize frame bcT a0 us = fr at *
      exact val_ok (v := .bool false) (w' := w') (by go_simp) hG (Below.refl _ _) rfl
    · intro us w2 hG hV
      have eL : us 19 = .bool false := hV 19 (by decide)
      subst ha0
      simp only [frame, bcT, fill]
      rw [eL]
      clear hV hl eL
      have HB_w2 := Lib.hid (HB_W1.out.trans (hG.mono HB_W1.out.size))
      have HG_w2 := Lib.hid (HG_W1.out.below hG)
      clear hG
      cases oq with
      | none =>
        go_upto_region 7 with (first
          | (go_at_call 17; (refine (N0.out rfl _ HG_w2.out).mono ?_); rintro e v2 ⟨rfl, BB⟩
             have HB_v2 := Lib.hid (HB_w2.out.trans (BB.mono HB_w2.out.size))
             have HN_v2 := Lib.hid (show (v2.alloc (.cells Z 24)).heap[v2.heap.size]? = some (.cells Z 24 (0, 0)) from heap_alloc_new _ _)
             have HG_v2 := Lib.hid (HG_w2.out.below BB)
             clear BB)
          | (refine wpList_store_row rfl 24 (.tmp 7) (.tmp 44) rfl v2.heap.size Z rfl rfl _ _ HN_v2.out ZU.out.1 rfl ZU.out.2.2 ?_))
        rw [World.setRow_alloc_new]
        have HB_W2 := Lib.hid (show Below w.heap.size w (v2.alloc (.cells Z 24)) from HB_v2.out.trans ((alloc_below _ _).mono HB_v2.out.size))
        have RY_W2 := Lib.hid (show (v2.alloc (.cells Z 24)).heap[v2.heap.size]? = some (.cells Z 24 (0, 0)) from heap_alloc_new _ _)
        have HG_W2 := Lib.hid (HG_v2.out.below (alloc_below v2 (.cells Z 24)))
        clear HB_v2 HN_v2 HG_v2
        generalize v2.heap.size = g2 at *
        generalize v2.alloc (.cells Z 24) = W2 at *
        go_wp2_with (first
          | (refine wpList_load_rowG (by rfl) 24 (.tmp 7) rfl (g2) rfl _ _ _ _ RY_W2.out Tryd.underlying24 rfl ZU.out.1 ?_)
          | (refine wpList_zero rfl 24 rfl Z ZB.out ?_)
          | (refine wpList_runG (by rfl) _ (eq_run rfl (by rfl) (by rfl) (EQZ.out _) guard_addr) ?_)
          | (go_at_call 7; (refine (alive_any _ HG_W2.out).mono ?_); rintro e w6 ⟨rfl, BB⟩
             have HB_w6 := Lib.hid (HB_W2.out.trans (BB.mono HB_W2.out.size))
             clear BB))
        go_ret
        exact ⟨rfl, HB_w6.out⟩
      | some q =>
        obtain ⟨s2, b2⟩ := q
        obtain ⟨l2, y2, m2⟩ := RD.out s2 b2 HOQ.out.symm
        have hk2 := LB.out s2 b2 HOQ.out.symm
        have N1' := Lib.hid (N1.out s2 b2 rfl)
        have T2 := Lib.hid (fun w' (h : Gb w') => ctext_any s2 b2 w' h l2 y2)
        have P3 := Lib.hid (fun w' (h : Gb w') => (show Calls Tryd.prog 17 #[.string (strOfNums (ctextL s2 b2))] w' fun e w'' => e = .returned (.tuple #[.agg (adrV s2 b2), .int .i64 0]) ∧ Below w'.heap.size w' w'' by
          have h1 := cparse_any (ctextL s2 b2) w' h (ctext_byte s2 b2) (by have := ctext_small (s := s2) l2 y2; omega)
          rw [back_any s2 l2 y2, can_may l2 m2] at h1
          exact h1))
        have M3 := Lib.hid (fun w' => (show Calls Tryd.prog 15 #[.agg (adrV s2 b2)] w' (Ret w' (.bool true)) by
          have h1 := cmay_any s2 b2 w' l2
          rw [m2] at h1; exact h1))
        have UY := Lib.hid (UF.out s2 b2 l2)
        have EQY := Lib.hid (fun w' => eqa_self s2 l2 w')
        obtain ⟨k, hk⟩ : ∃ k, k = (ctextL s2 b2).length := ⟨_, rfl⟩
        have SZ2 := Lib.hid (show (strOfNums (ctextL s2 b2)).size = k by rw [strOfNums_size, hk])
        obtain ⟨j, hj⟩ : ∃ j, j = m + 1 := ⟨_, rfl⟩
        have HJ := Lib.hid (And.intro (show (m : Int) + 1 = (j : Int) by omega) (show IntKind.i64.wrap (j : Int) = (j : Int) from IntWalk.i64_in _ (by omega)))
        have HLE := Lib.hid (show (k : Int) ≤ (j : Int) by have := HM.out; omega)
        clear hk2 hk hj l2 y2 m2
        generalize strOfNums (ctextL s2 b2) = S2 at *
        generalize adrV s2 b2 = TY at *
        go_upto_region 7 with (first
          | (go_at_call 17; (refine (N1'.out _ HG_w2.out).mono ?_); rintro e v2 ⟨rfl, BB⟩
             have HB_v2 := Lib.hid (HB_w2.out.trans (BB.mono HB_w2.out.size))
             have HN_v2 := Lib.hid (show (v2.alloc (.cells Z 24)).heap[v2.heap.size]? = some (.cells Z 24 (0, 0)) from heap_alloc_new _ _)
             have HG_v2 := Lib.hid (HG_w2.out.below BB)
             clear BB)
          | (refine wpList_store_row rfl 24 (.tmp 7) (.tmp 44) rfl v2.heap.size TY rfl rfl _ _ HN_v2.out UY.out.1 UY.out.2.1 UY.out.2.2 ?_))
        rw [World.setRow_alloc_new]
        have HB_W2 := Lib.hid (show Below w.heap.size w (v2.alloc (.cells TY 24)) from HB_v2.out.trans ((alloc_below _ _).mono HB_v2.out.size))
        have RY_W2 := Lib.hid (show (v2.alloc (.cells TY 24)).heap[v2.heap.size]? = some (.cells TY 24 (0, 0)) from heap_alloc_new _ _)
        have HG_W2 := Lib.hid (HG_v2.out.below (alloc_below v2 (.cells TY 24)))
        clear HB_v2 HN_v2 HG_v2
        generalize v2.heap.size = g2 at *
        generalize v2.alloc (.cells TY 24) = W2 at *
        go_upto_region 10 with (first
          | (refine wpList_load_row rfl 24 (.tmp 7) rfl g2 rfl _ _ _ _ RY_W2.out Tryd.underlying24 rfl UY.out.1 ?_)
          | (go_at_call 19; (with_reducible refine (T2.out _ HG_W2.out).mono ?_); rintro e t2 ⟨rfl, BB⟩
             have HB_t2 := Lib.hid (HB_W2.out.trans (BB.mono HB_W2.out.size))
             have RY_t2 := Lib.hid (show t2.heap[g2]? = some (.cells TY 24 (0, 0)) by rw [BB.block _ (lt_of_row RY_W2.out)]; exact RY_W2.out)
             have HG_t2 := Lib.hid (HG_W2.out.below BB)
             clear BB)
          | (go_at_call 17; (refine (P3.out _ HG_t2.out).mono ?_); rintro e v3 ⟨rfl, BB⟩
             have HB_v3 := Lib.hid (HB_t2.out.trans (BB.mono HB_t2.out.size))
             have RY_v3 := Lib.hid (show v3.heap[g2]? = some (.cells TY 24 (0, 0)) by rw [BB.block _ (lt_of_row RY_t2.out)]; exact RY_t2.out)
             have HN_v3 := Lib.hid (show (v3.alloc (.cells Z 24)).heap[v3.heap.size]? = some (.cells Z 24 (0, 0)) from heap_alloc_new _ _)
             have HG_v3 := Lib.hid (HG_t2.out.below BB)
             clear BB)
          | (refine wpList_store_row rfl 24 (.tmp 9) (.tmp 58) rfl v3.heap.size TY rfl rfl _ _ HN_v3.out UY.out.1 UY.out.2.1 UY.out.2.2 ?_))
        rw [World.setRow_alloc_new]
        have HB_W3 := Lib.hid (show Below w.heap.size w (v3.alloc (.cells TY 24)) from HB_v3.out.trans ((alloc_below _ _).mono HB_v3.out.size))
        have RY_W3 := Lib.hid (show (v3.alloc (.cells TY 24)).heap[g2]? = some (.cells TY 24 (0, 0)) by rw [(alloc_below _ _).block _ (lt_of_row RY_v3.out)]; exact RY_v3.out)
        have RZ_W3 := Lib.hid (show (v3.alloc (.cells TY 24)).heap[v3.heap.size]? = some (.cells TY 24 (0, 0)) from heap_alloc_new _ _)
        have HG_W3 := Lib.hid (HG_v3.out.below (alloc_below v3 (.cells TY 24)))
        clear HB_v3 HN_v3 RY_v3 HG_v3
        generalize v3.heap.size = g3 at *
        generalize v3.alloc (.cells TY 24) = W3 at *
        clear RY_t2 HB_t2 HG_t2
        have z1 := SZ2.out
        have z2 := SZ0.out
        have z3 := HJ.out.1
        have z4 := HLE.out
        have z5 : (m : Int) ≤ 200 := by omega
        go_wp2_with (first
          | (refine wpList_load_rowG (by rfl) 24 (.tmp 7) rfl (g2) rfl _ _ _ _ RY_W3.out Tryd.underlying24 rfl UY.out.1 ?_)
          | (go_at_call 15; (with_reducible refine (M3.out _).mono ?_); rintro e w7 ⟨rfl, BB⟩
             have HB_w7 := Lib.hid (HB_W3.out.trans (BB.mono HB_W3.out.size))
             have RY_w7 := Lib.hid (show w7.heap[g2]? = some (.cells TY 24 (0, 0)) by rw [BB.block _ (lt_of_row RY_W3.out)]; exact RY_W3.out)
             have RZ_w7 := Lib.hid (show w7.heap[g3]? = some (.cells TY 24 (0, 0)) by rw [BB.block _ (lt_of_row RZ_W3.out)]; exact RZ_W3.out)
             have HG_w7 := Lib.hid (HG_W3.out.below BB)
             clear BB)
          | (refine wpList_load_rowG (by rfl) 24 (.tmp 9) rfl (g3) rfl _ _ _ _ RZ_w7.out Tryd.underlying24 rfl UY.out.1 ?_)
          | (refine wpList_load_rowG (by rfl) 24 (.tmp 7) rfl (g2) rfl _ _ _ _ RY_w7.out Tryd.underlying24 rfl UY.out.1 ?_)
          | (refine wpList_runG (by rfl) _ (eq_run rfl (by rfl) (by rfl) (EQY.out _) guard_addr) ?_)
          | (go_at_call 19; (with_reducible refine (T2.out _ HG_w7.out).mono ?_); rintro e w8 ⟨rfl, BB⟩
             have HB_w8 := Lib.hid (HB_w7.out.trans (BB.mono HB_w7.out.size))
             have RY_w8 := Lib.hid (show w8.heap[g2]? = some (.cells TY 24 (0, 0)) by rw [BB.block _ (lt_of_row RY_w7.out)]; exact RY_w7.out)
             have RZ_w8 := Lib.hid (show w8.heap[g3]? = some (.cells TY 24 (0, 0)) by rw [BB.block _ (lt_of_row RZ_w7.out)]; exact RZ_w7.out)
             have HG_w8 := Lib.hid (HG_w7.out.below BB)
             clear BB)
          | (go_at_call 7; (refine (alive_any _ HG_w8.out).mono ?_); rintro e w9 ⟨rfl, BB⟩
             have HB_w9 := Lib.hid (HB_w8.out.trans (BB.mono HB_w8.out.size))
             clear BB))
        go_ret
        exact ⟨rfl, HB_w9.out⟩
end Go.Proofs.YtmkekdmkefkfiaaDoor.adC

/-
  The document's addresses: what six does.
-/
namespace Go.Proofs.YtmkekdmkefkfiaaDoor.adC
open Go.ChangeShapes Go.WideShapes Go.ChangeAt Go.RowKit
open Go.Proofs.YtmkekdmkefkfiaaDoor.memC Go.Proofs.YtmkekdmkefkfiaaDoor.genC Go.Proofs.YtmkekdmkefkfiaaDoor.butC Go.Proofs.YtmkekdmkefkfiaaDoor.freeC Go.Proofs.YtmkekdmkefkfiaaDoor.txC
set_option linter.unusedVariables false
theorem grs_any {w w' : World} {e : Ending} {o : Option (List Int)} (h : GrsRet w o e w') : ∃ A n c, e = .returned (.tuple #[.slice A n c, .bool o.isSome]) ∧ Below w.heap.size w w' := by
  cases o with
  | none => exact ⟨none, 0, 0, h.1, h.2⟩
  | some gs => obtain ⟨A, n, c, h1, _, _, _, _, h2⟩ := h; exact ⟨A, n, c, h1, h2⟩
/-- the first groups grow, the others stand -/
structure GX (w w1 w2 : World) (ga bs : List Int) (A2 : Option Addr) (n2 c2 : Nat) (n c : Nat) (A : Option Addr) (wr : World) : Prop where
  own : Own .u16 47 wr w.heap.size (.slice A n c) ga
  lies : ∀ g, Value.ownBlock (.slice A n c) = some g → g < w1.heap.size ∨ w2.heap.size ≤ g
  keep : ∀ g, w1.heap.size ≤ g → g < w2.heap.size → wr.heap[g]? = w2.heap[g]?
  bel : Below w.heap.size w wr
  size : w2.heap.size ≤ wr.heap.size
  other : Own .u16 47 w2 w1.heap.size (.slice A2 n2 c2) bs
theorem GX.nums {w w1 w2 wr : World} {ga bs : List Int} {A2 A : Option Addr} {n2 c2 n c : Nat} (h : GX w w1 w2 ga bs A2 n2 c2 n c A wr) (hw : w1.heap.size ≤ w2.heap.size) : Nums .u16 wr wr.heap.size A2 n2 bs := by
  have N := h.other.nums
  refine ⟨N.len, fun hn => ?_⟩
  obtain ⟨b, o, e, hb, hc⟩ := N.at_ hn
  obtain ⟨g, e2, hg1, hg2, hcell, _⟩ := h.other.row hn
  rw [e] at e2
  obtain ⟨rfl, rfl⟩ : b = g ∧ o = 0 := by simpa using e2
  exact ⟨b, 0, e, Nat.lt_of_lt_of_le hg2 h.size, fun i hi => (World.cell?_of_block (w := w2) (w' := wr) (h.keep b hg1 hg2)).trans (hc i hi)⟩
/-- append(first, 0) -/
theorem GX.zero {w w1 w2 wr w' : World} {ga bs : List Int} {A2 A : Option Addr} {n2 c2 n c g cap : Nat} (h : GX w w1 w2 ga bs A2 n2 c2 n c A wr) (hw : w.heap.size ≤ w1.heap.size)
    (hl : ga.length = n)
    (O : w'.ownsRow w.heap.size 47 1 (.slice (some ⟨g, 0, none⟩) (n + 1) cap) (n + 1) (ga.map (Value.int .u16) ++ [.int .u16 0]))
    (G : (wr.alloc (.cells #[.int .u16 0] 47)).grownBy w' (Value.ownBlock (.slice A n c))) (L : Value.ownBlock (.slice A n c) = some g ∨ g = (wr.alloc (.cells #[.int .u16 0] 47)).heap.size) :
    GX w w1 w2 (ga ++ [0]) bs A2 n2 c2 (n + 1) cap (some ⟨g, 0, none⟩) w' := by
  have hsz : (wr.alloc (.cells #[.int .u16 0] 47)).heap.size = wr.heap.size + 1 := alloc_size _ _
  have h0 := h.size
  refine ⟨?_, fun g' hg' => ?_, fun k h1 h2 => ?_, ?_, ?_, h.other⟩
  · unfold Own
    rw [List.length_append, hl, List.map_append]
    exact O
  · obtain rfl : g = g' := by simpa [Value.ownBlock] using hg'
    rcases L with h3 | h3
    · exact h.lies g h3
    · right; omega
  · rw [G.block k (by omega) (fun e => by
      rcases h.lies k e.symm with h3 | h3 <;> omega), ← h.keep k h1 h2]
    exact (alloc_below wr (.cells #[.int .u16 0] 47)).block k (by omega)
  · exact (h.bel.alloc h.bel.size _).grown G (by have := h.bel.size; omega) fun g' hg' => (h.own.blk g' hg').1
  · have := G.size; omega
theorem sixF_end {xs : List Int} {f i : Nat} (h : ¬ i + 1 < xs.length) : sixF xs f i = wholeG xs := by
  cases f
  · rfl
  · unfold sixF; rw [if_neg h]
theorem sixF_gap {xs : List Int} {f i : Nat} (h : i + 1 < xs.length) (hg : (xs.drop i).take 2 = [58, 58]) : sixF xs (f + 1) i = gapG xs i := by rw [sixF, if_pos h, if_pos hg]
theorem sixF_on {xs : List Int} {f i : Nat} (h : i + 1 < xs.length) (hg : (xs.drop i).take 2 ≠ [58, 58]) : sixF xs (f + 1) i = sixF xs f (i + 1) := by rw [sixF, if_pos h, if_neg hg]
theorem zs_w16m (n : Nat) : ∀ x ∈ zs n, W16 x := by unfold zs W16; intro x hx; rw [List.eq_of_mem_replicate hx]; omega
def SixRet (w : World) (o : Option (List Int)) (e : Ending) (w' : World) : Prop :=
  (match o with
  | some gs => e = .returned (.tuple #[.agg (adrV true (sixB gs)), .int .i64 0])
  | none => e = .returned (.tuple #[.agg zAdr, .int .i64 3])) ∧ Below w.heap.size w w'
set_option maxRecDepth 100000 in
set_option maxHeartbeats 4000000 in
theorem six_any (xs : List Int) (w : World) (hy : ∀ x ∈ xs, Byte x) (hn : xs.length ≤ 8000) : Calls Tryd.prog 29 #[.string (strOfNums xs)] w (SixRet w (sixL xs)) := by
  obtain ⟨i0, hi0, hz0, hz1, hz2⟩ := info_parts word_inf
  have T1 := Lib.hid hi0; have T2 := Lib.hid hz0; have T3 := Lib.hid hz1; have T4 := Lib.hid hz2
  obtain ⟨Z, hZ⟩ : ∃ Z, Z = zAdr := ⟨_, rfl⟩
  have hzv := zeroAdr
  rw [← hZ] at hzv
  have HZB := Lib.hid (show Tryd.prog.built 24 [] = some Z by rw [hZ]; exact built_zero)
  have UZ := Lib.hid (show (Tryd.prog.info? 24).map (·.size) = some Z.size by rw [addr_info, hZ]; rfl)
  have OZ := Lib.hid (show Z.all (·.oneCell') = true by rw [hZ]; exact adrV_one _ _)
  have UV := Lib.hid (fun gs => show (Tryd.prog.info? 24).map (·.size) = some (adrV true (sixB gs)).size by rw [addr_info, adrV_size (sixB_len _)])
  have ZV := Lib.hid (fun gs => show Z.size = (adrV true (sixB gs)).size by rw [hZ, adrV_size (sixB_len _)]; rfl)
  have OV := Lib.hid (fun gs => show (adrV true (sixB gs)).all (·.oneCell') = true from adrV_one _ _)
  obtain ⟨L, hL⟩ : ∃ L, L = xs.length := ⟨_, rfl⟩
  have hsz : (strOfNums xs).size = L := by rw [strOfNums_size, hL]
  have hL1 : L ≤ 8000 := by omega
  have CUT := Lib.hid (fun (i : Nat) (hi : i + 1 < L) (j : Nat) (hj : j = i + 2) (w' : World) => (show (Instr.slice 9 (.string (strOfNums xs)) (some (.int .i64 (i : Int))) (some (.int .i64 (j : Int))) none).run Tryd.prog w' = .ok (.string (strOfNums ((xs.drop i).take 2))) w' by
    have h := str_cut (xs := xs) (lo := i) (hi := j) (by omega) (by omega) rfl rfl w'
    rwa [show j - i = 2 by omega] at h))
  have TO := Lib.hid (fun (i : Nat) (hi : i ≤ L) (w' : World) => str_to (xs := xs) (hi := i) (by omega) (hz := (i : Int)) rfl w')
  have FR := Lib.hid (fun (i : Nat) (hi : i ≤ L) (w' : World) => str_from (xs := xs) (lo := i) (by omega) (lz := (i : Int)) rfl w')
  have GT := Lib.hid (fun (i : Nat) (w' : World) => groups_any (xs.take i) w' (fun x hx => hy x (List.mem_of_mem_take hx)) (by rw [List.length_take]; omega))
  have GF := Lib.hid (fun (i : Nat) (w' : World) => groups_any (xs.drop i) w' (fun x hx => hy x (List.mem_of_mem_drop hx)) (by rw [List.length_drop]; omega))
  have GW := Lib.hid (fun (w' : World) => groups_any xs w' hy (by omega))
  have EQ := Lib.hid (fun (i : Nat) => (show ((strOfNums ((xs.drop i).take 2)).toList == ByteArray.toList { data := #[58, 58] }) = decide ((xs.drop i).take 2 = [58, 58]) by
    rw [Bool.eq_iff_iff, beq_iff_eq, decide_eq_true_eq]
    exact str_inj (fun x hx => hy x (List.mem_of_mem_drop (List.mem_of_mem_take hx))) (by show ∀ x ∈ ([58, 58] : List Int), Byte x; unfold Byte; decide)))
  have W16T := Lib.hid (fun (ys gs : List Int) (h : grsL ys = some gs) => (grsL_ok h))
  obtain ⟨R, hR⟩ : ∃ R, R = sixL xs := ⟨_, rfl⟩
  have HR := Lib.hid (show sixF xs (L - 0) 0 = R by rw [hR, hL]; rfl)
  have HL := Lib.hid hL
  obtain ⟨W, hW⟩ : ∃ W, W = w.alloc (.cells Z 24) := ⟨_, rfl⟩
  have RW := Lib.hid (show W.heap[w.heap.size]? = some (.cells Z 24 (0, 0)) by rw [hW]; exact heap_alloc_new _ _)
  have BW := Lib.hid (show Below w.heap.size w W by rw [hW]; exact alloc_below _ _)
  have HZ := Lib.hid hZ
  have LIT := Lib.hid (fun (w5 : World) => (show ∀ j u, [Value.int .u16 0][j]? = some u → (w5.alloc (.cells #[.int .u16 0] 47)).cell? ((⟨w5.heap.size, 0, none⟩ : Addr).add j) = some u from World.news_of_block (cs := #[.int .u16 0]) (heap_alloc_new w5 _)))
  rw [← hR]
  generalize hS : strOfNums xs = S0 at *
  clear hR hL hy hS hi0 hz0 hz1 hz2 hZ
  go_enter Tryd.func29, Tryd.ntmps29
  go_upto_region 1 with fail
  rw [← hW]
  clear hW hzv
  go_wp2_with fail
  go_loopw [4] (fun v wr => ∃ i : Nat, i ≤ L ∧ v = .int .i64 i ∧ sixF xs (L - i) i = R ∧ Gr W wr) (fun v _ => L - (intOf v).toNat)
  case atStart => exact ⟨0, by omega, rfl, HR.out, Below.refl _ _⟩
  case round =>
    obtain ⟨i, hi, rfl, hf, Bw⟩ := hrel
    obtain ⟨wo, hwo⟩ : ∃ wo, wo = wr := ⟨_, rfl⟩
    subst hwo
    have HF := Lib.hid hf
    have HB := Lib.hid Bw
    clear hf Bw
    obtain ⟨i1, hi1⟩ : ∃ j, j = i + 1 := ⟨_, rfl⟩
    have i1z : (i : Int) + 1 = (i1 : Int) := by omega
    have HI1 := Lib.hid hi1
    by_cases hlt : i1 < L
    · have hz : (i1 : Int) < (L : Int) := by omega
      obtain ⟨i2, hi2⟩ : ∃ j, j = i + 2 := ⟨_, rfl⟩
      have i2z : (i : Int) + 2 = (i2 : Int) := by omega
      have CU := Lib.hid (CUT.out i (by omega) i2 hi2)
      have EI := Lib.hid (EQ.out i)
      have TI := Lib.hid (TO.out i hi)
      have FI := Lib.hid (FR.out i2 (by omega))
      have GT1 := Lib.hid (GT.out i)
      have GF1 := Lib.hid (GF.out i2)
      have HI2 := Lib.hid hi2
      clear hi1 hi2
      generalize strOfNums ((xs.drop i).take 2) = S2 at *
      generalize strOfNums (xs.take i) = S3 at *
      generalize strOfNums (xs.drop i2) = S4 at *
      by_cases hg : (xs.drop i).take 2 = [58, 58]
      · have EI2 := Lib.hid (show (S2.toList == ByteArray.toList { data := #[58, 58] }) = true by rw [EI.out, decide_eq_true hg])
        have HGP := Lib.hid (show gapG xs i = R by
          have h := HF.out
          have h1 := HI1.out
          have h2 := HL.out
          rw [show L - i = (L - i - 1) + 1 by omega, sixF_gap (by omega) hg] at h
          exact h)
        clear hg
        have HGG := Lib.hid (show gapG xs i = match grsL (xs.take i), grsL (xs.drop i2) with
          | some a, some b => if 7 < a.length + b.length then none else some ((a ++ zs (8 - (a.length + b.length))) ++ b)
          | _, _ => none by rw [HI2.out]; rfl)
        cases hga : grsL (xs.take i) with
        | none =>
          have HN := Lib.hid (show R = none by rw [← HGP.out, HGG.out, hga])
          rw [hga] at GT1
          clear hga
          go_upto_region 5 with (first
            | (refine wpList_runG (by rfl) _ (cut_run Tryd.underlying9 rfl (by rfl) (by rfl) (by rfl) (CU.out _)) ?_)
            | (refine wpList_runG (by rfl) _ (neq_run rfl (by rfl) (by rfl) EI2.out) ?_))
          go_upto_region 6 with (first
            | (refine wpList_runG (by rfl) _ (to_run Tryd.underlying9 rfl (by rfl) (by rfl) (TI.out _)) ?_)
            | (go_at_call 44; (refine (GT1.out _).mono ?_); rintro e w3 ⟨rfl, B3⟩
               have HB3 := Lib.hid (HB.out.below B3)))
          go_upto_region 7 with (first
            | (refine wpList_runG (by rfl) _ (from_run Tryd.underlying9 rfl (by rfl) (by rfl) (FI.out _)) ?_)
            | (go_at_call 44; (refine (GF1.out _).mono ?_); intro e w4 h4
               obtain ⟨A4, n4, c4, rfl, B4⟩ := grs_any h4
               have HB4 := Lib.hid (HB3.out.below B4)
               clear h4))
          have RR := Lib.hid (show w4.heap[w.heap.size]? = some (.cells Z 24 (0, 0)) from HB4.out.row RW.out)
          have BQ := Lib.hid (BW.out.trans (HB4.out.mono BW.out.size))
          go_wp2_with (first
            | (refine wpList_zero rfl 24 rfl _ HZB.out ?_)
            | (refine wpList_store_row rfl 24 (.tmp 2) (.tmp 53) rfl w.heap.size _ rfl rfl _ _ RR.out UZ.out rfl OZ.out ?_))
          refine bodyPost_ret (v := .tuple #[.agg Z, .int .i64 3]) (results_cell_tmp Tryd.results29 _ _ w.heap.size _ _ _ _ _ (by rfl) (setRow_heap _ _ _ _ _ _ RR.out) Tryd.underlying24 rfl UZ.out (by rfl)) rfl ?_
          rw [HN.out]
          exact ⟨by rw [HZ.out], BQ.out.trans ⟨rfl, rfl, rfl, by simp, fun z hz => setRow_other _ _ _ _ (by omega)⟩⟩
        | some ga =>
          rw [hga] at GT1
          obtain ⟨wa, la⟩ := W16T.out _ _ hga
          cases hgb : grsL (xs.drop i2) with
          | none =>
            have HN := Lib.hid (show R = none by rw [← HGP.out, HGG.out, hga, hgb])
            rw [hgb] at GF1
            clear hga hgb wa la
            go_upto_region 5 with (first
              | (refine wpList_runG (by rfl) _ (cut_run Tryd.underlying9 rfl (by rfl) (by rfl) (by rfl) (CU.out _)) ?_)
              | (refine wpList_runG (by rfl) _ (neq_run rfl (by rfl) (by rfl) EI2.out) ?_))
            go_upto_region 6 with (first
              | (refine wpList_runG (by rfl) _ (to_run Tryd.underlying9 rfl (by rfl) (by rfl) (TI.out _)) ?_)
              | (go_at_call 44; (refine (GT1.out _).mono ?_); rintro e w3 ⟨A3, n3, c3, rfl, l3, g3, g3', O3, B3⟩
                 have HB3 := Lib.hid (HB.out.below B3)))
            go_upto_region 7 with (first
              | (refine wpList_runG (by rfl) _ (from_run Tryd.underlying9 rfl (by rfl) (by rfl) (FI.out _)) ?_)
              | (go_at_call 44; (refine (GF1.out _).mono ?_); rintro e w4 ⟨rfl, B4⟩
                 have HB4 := Lib.hid (HB3.out.below B4)))
            clear O3 B3 B4
            have RR := Lib.hid (show w4.heap[w.heap.size]? = some (.cells Z 24 (0, 0)) from HB4.out.row RW.out)
            have BQ := Lib.hid (BW.out.trans (HB4.out.mono BW.out.size))
            go_wp2_with (first
              | (refine wpList_zero rfl 24 rfl _ HZB.out ?_)
              | (refine wpList_store_row rfl 24 (.tmp 2) (.tmp 53) rfl w.heap.size _ rfl rfl _ _ RR.out UZ.out rfl OZ.out ?_))
            refine bodyPost_ret (v := .tuple #[.agg Z, .int .i64 3]) (results_cell_tmp Tryd.results29 _ _ w.heap.size _ _ _ _ _ (by rfl) (setRow_heap _ _ _ _ _ _ RR.out) Tryd.underlying24 rfl UZ.out (by rfl)) rfl ?_
            rw [HN.out]
            exact ⟨by rw [HZ.out], BQ.out.trans ⟨rfl, rfl, rfl, by simp, fun z hz => setRow_other _ _ _ _ (by omega)⟩⟩
          | some bs =>
            obtain ⟨wb, lb⟩ := W16T.out _ _ hgb
            have HWA := Lib.hid wa
            have HWB := Lib.hid wb
            have HN0 := Lib.hid (show R = if 7 < ga.length + bs.length then none else some ((ga ++ zs (8 - (ga.length + bs.length))) ++ bs) by rw [← HGP.out, HGG.out, hga, hgb])
            rw [hgb] at GF1
            rw [List.length_take] at la
            rw [List.length_drop] at lb
            clear hga hgb wa wb
            go_upto_region 5 with (first
              | (refine wpList_runG (by rfl) _ (cut_run Tryd.underlying9 rfl (by rfl) (by rfl) (by rfl) (CU.out _)) ?_)
              | (refine wpList_runG (by rfl) _ (neq_run rfl (by rfl) (by rfl) EI2.out) ?_))
            go_upto_region 6 with (first
              | (refine wpList_runG (by rfl) _ (to_run Tryd.underlying9 rfl (by rfl) (by rfl) (TI.out _)) ?_)
              | (go_at_call 44; (refine (GT1.out _).mono ?_); rintro e w3 ⟨A3, n3, c3, rfl, l3, g3, g3', O3, B3⟩
                 have HB3 := Lib.hid (HB.out.below B3)
                 have HO3 := Lib.hid O3))
            go_upto_region 7 with (first
              | (refine wpList_runG (by rfl) _ (from_run Tryd.underlying9 rfl (by rfl) (by rfl) (FI.out _)) ?_)
              | (go_at_call 44; (refine (GF1.out _).mono ?_); rintro e w4 ⟨A4, n4, c4, rfl, l4, g4, g4', O4, B4⟩
                 have HB4 := Lib.hid (HB3.out.below B4)))
            rw [l3, l4] at HN0
            have n3s : n3 ≤ 8001 := by have := HL.out; omega
            have n4s : n4 ≤ 8001 := by have := HL.out; omega
            have HL3 := Lib.hid l3
            have HL4 := Lib.hid l4
            have G0 := Lib.hid (show GX wo w3 w4 (ga ++ zs 0) bs A4 n4 c4 n3 c3 A3 w4 from ⟨by
              have h := O3.below B4
              rw [show ga ++ zs 0 = ga by simp [zs]]; exact h, fun g hg => .inl (by
              have := (O3.blk g hg).2; exact this), fun g _ _ => rfl, B3.trans (B4.mono B3.size), Nat.le_refl _, O4⟩)
            have HS1 := Lib.hid B3.size
            have HS2 := Lib.hid B4.size
            clear O3 O4 l3 l4 g3 g3' g4 g4'
            by_cases h7 : 7 < n3 + n4
            · have HN := Lib.hid (HN0.out.trans (if_pos h7))
              have h7z : (7 : Int) < (n3 : Int) + (n4 : Int) := by omega
              have h7d : decide ((7 : Int) < (n3 : Int) + (n4 : Int)) = true := decide_eq_true h7z
              have RR := Lib.hid (show w4.heap[w.heap.size]? = some (.cells Z 24 (0, 0)) from HB4.out.row RW.out)
              have BQ := Lib.hid (BW.out.trans (HB4.out.mono BW.out.size))
              go_wp2_with (first
                | (refine wpList_zero rfl 24 rfl _ HZB.out ?_)
                | (refine wpList_store_row rfl 24 (.tmp 2) (.tmp 53) rfl w.heap.size _ rfl rfl _ _ RR.out UZ.out rfl OZ.out ?_))
              refine bodyPost_ret (v := .tuple #[.agg Z, .int .i64 3]) (results_cell_tmp Tryd.results29 _ _ w.heap.size _ _ _ _ _ (by rfl) (setRow_heap _ _ _ _ _ _ RR.out) Tryd.underlying24 rfl UZ.out (by rfl)) rfl ?_
              rw [HN.out]
              exact ⟨by rw [HZ.out], BQ.out.trans ⟨rfl, rfl, rfl, by simp, fun z hz => setRow_other _ _ _ _ (by omega)⟩⟩
            · have HN := Lib.hid (HN0.out.trans (if_neg h7))
              have h7z : ¬ (7 : Int) < (n3 : Int) + (n4 : Int) := by omega
              have h7d : decide ((7 : Int) < (n3 : Int) + (n4 : Int)) = false := decide_eq_false h7z
              have G1 := Lib.hid (show GX wo w3 w4 (ga ++ zs (n3 - n3)) bs A4 n4 c4 n3 c3 A3 w4 from by rw [Nat.sub_self]; exact G0.out)
              clear B3 B4
              go_wp2_with fail
              clear h7z h7d
              go_loopw [5] (fun v w5 => ∃ (n : Nat) (c : Nat) (A : Option Addr), v = .slice A n c ∧ n3 ≤ n ∧ n + n4 ≤ 8 ∧ GX wo w3 w4 (ga ++ zs (n - n3)) bs A4 n4 c4 n c A w5) (fun v _ => 8 - (match v with | .slice _ n _ => n | _ => 0))
              case atStart => exact ⟨n3, c3, A3, rfl, Nat.le_refl _, by omega, G1.out⟩
              case round =>
                obtain ⟨n, c, A, rfl, hn3, hn8, GG⟩ := hrel
                have HGX := Lib.hid GG
                have ln := GG.own.len
                have HLN := Lib.hid ln
                clear GG ln
                by_cases h8 : n + n4 < 8
                · have h8z : (n : Int) + (n4 : Int) < 8 := by omega
                  have h8d : decide ((n : Int) + (n4 : Int) < 8) = true := decide_eq_true h8z
                  have HZZ := Lib.hid (show (ga ++ zs (n - n3)) ++ [0] = ga ++ zs (n + 1 - n3) by
                    rw [List.append_assoc, show n + 1 - n3 = (n - n3) + 1 by omega]
                    unfold zs
                    rw [List.replicate_succ'])
                  go_wp2_with (first
                    | (at_builtin; (refine wpList_append_lies (wr.alloc (.cells #[.int .u16 0] 47)) rfl (.tmp 60) (.tmp 61) _ rfl wo.heap.size 47 i0 _ 1 2 Tryd.underlying26 T1.out T2.out T3.out T4.out rfl (by decide) (.slice A n c) n ((ga ++ zs (n - n3)).map (Value.int .u16)) (by rfl) (by have h := HGX.out.own.alloc (.cells #[.int .u16 0] 47); unfold Own at h; rw [HLN.out] at h; exact h) ⟨wr.heap.size, 0, none⟩ 1 1 [.int .u16 0] (by rfl) rfl (LIT.out wr) (by simp; rfl) (by decide) (by simp only [maxLen]; omega) (by omega) (by have := HGX.out.bel.size; rw [alloc_size]; omega) _ rfl ?_)
                       intro g6 c6 w6 O6 G6 L6 _
                       have HG6 := Lib.hid (HGX.out.zero HS1.out HLN.out O6 G6 L6)
                       clear O6 G6 L6))
                  go_roundw
                  case rel => exact ⟨n + 1, c6, some ⟨g6, 0, none⟩, rfl, by omega, by omega, by rw [← HZZ.out]; exact HG6.out⟩
                  case measure => simp; omega
                · have h8z : ¬ (n : Int) + (n4 : Int) < 8 := by omega
                  have h8d : decide ((n : Int) + (n4 : Int) < 8) = false := decide_eq_false h8z
                  have e8 : n - n3 = 8 - (n3 + n4) := by omega
                  have NB := Lib.hid (HGX.out.nums HS2.out)
                  obtain ⟨gs, hgs⟩ : ∃ gs, gs = (ga ++ zs (n - n3)) ++ bs := ⟨_, rfl⟩
                  have HGS := Lib.hid hgs
                  have HN2 := Lib.hid (show R = some gs by rw [HN.out, hgs, e8])
                  have BB5 := Lib.hid HGX.out.bel
                  have YY := Lib.hid (show ∀ x ∈ gs, W16 x by
                    intro x hx
                    rw [hgs] at hx
                    rcases List.mem_append.1 hx with h | h
                    · rcases List.mem_append.1 h with h | h
                      · exact HWA.out x h
                      · exact zs_w16m _ x h
                    · exact HWB.out x h)
                  clear hgs e8
                  go_wp2_with (first
                    | (at_builtin; (refine wpList_appT wr rfl (.tmp 63) (.tmp 64) _ rfl 47 i0 _ 2 Tryd.underlying26 T1.out T2.out T3.out T4.out rfl wo.heap.size (.slice A n c) _ (by rfl) HGX.out.own wr.heap.size A4 n4 c4 bs (by rfl) NB.out (by rw [HLN.out]; simp only [maxLen]; omega) (by rw [HLN.out]; omega) HGX.out.bel.size (n + n4) (by rw [HLN.out]) ?_)
                       intro A7 c7 w7 g7 g7' O7 B7
                       have N7 := Lib.hid (show Nums .u16 w7 w7.heap.size A7 (n + n4) gs by rw [HGS.out]; exact O7.nums)
                       have HB7 := Lib.hid (HB.out.below (BB5.out.trans B7))
                       clear O7 B7 g7 g7')
                    | (go_at_call 11; (refine (six_make A7 (n + n4) c7 gs w7 N7.out YY.out (by omega)).mono ?_); rintro e w8 ⟨rfl, B8⟩
                       have HB8 := Lib.hid (HB7.out.below B8)
                       have RR := Lib.hid (HB8.out.row RW.out))
                    | (refine wpList_store_row rfl 24 (.tmp 2) (.tmp 66) rfl w.heap.size _ rfl rfl _ _ RR.out (UV.out _) (ZV.out _) (OV.out _) ?_))
                  refine bodyPost_ret (v := .tuple #[.agg (adrV true (sixB gs)), .int .i64 0]) (results_cell_tmp Tryd.results29 _ _ w.heap.size _ _ _ _ _ (by rfl) (setRow_heap _ _ _ _ _ _ RR.out) Tryd.underlying24 rfl (UV.out _) (by rfl)) rfl ?_
                  rw [HN2.out]
                  exact ⟨rfl, (BW.out.trans (HB8.out.mono BW.out.size)).trans ⟨rfl, rfl, rfl, by simp, fun z hz => setRow_other _ _ _ _ (by omega)⟩⟩
      · have EI2 := Lib.hid (show (S2.toList == ByteArray.toList { data := #[58, 58] }) = false by rw [EI.out, decide_eq_false hg])
        have HN := Lib.hid (show sixF xs (L - i1) i1 = R by
          have h := HF.out
          have h1 := HI1.out
          have h2 := HL.out
          rw [show L - i = (L - i1) + 1 by omega, sixF_on (by omega) hg] at h
          rw [h1] at h ⊢; exact h)
        clear hg
        go_wp2_with (first
          | (refine wpList_runG (by rfl) _ (cut_run Tryd.underlying9 rfl rfl rfl rfl (CU.out _)) ?_)
          | (refine wpList_runG (by rfl) _ (neq_run rfl rfl rfl EI2.out) ?_))
        go_roundw
        case rel => exact ⟨i1, by omega, by go_num, HN.out, HB.out⟩
        case measure => simp [intOf]; omega
    · have hz : ¬ (i1 : Int) < (L : Int) := by omega
      have hzd : decide ((i1 : Int) < (L : Int)) = false := decide_eq_false hz
      have HW := Lib.hid (show wholeG xs = R by
        have h := HF.out
        have h1 := HI1.out
        have h2 := HL.out
        rw [sixF_end (by omega)] at h
        exact h)
      clear hi1
      cases hgw : grsL xs with
      | none =>
        have HN := Lib.hid (show R = none by rw [← HW.out]; unfold wholeG; rw [hgw])
        rw [hgw] at GW
        clear hgw
        go_upto_region 13 with (first
          | (go_at_call 44; (refine (GW.out _).mono ?_); rintro e w3 ⟨rfl, B3⟩
             have HB3 := Lib.hid (HB.out.below B3)))
        clear B3
        have RR := Lib.hid (show w3.heap[w.heap.size]? = some (.cells Z 24 (0, 0)) from HB3.out.row RW.out)
        have BQ := Lib.hid (BW.out.trans (HB3.out.mono BW.out.size))
        go_wp2_with (first
          | (refine wpList_zero rfl 24 rfl _ HZB.out ?_)
          | (refine wpList_store_row rfl 24 (.tmp 2) (.tmp 79) rfl w.heap.size _ rfl rfl _ _ RR.out UZ.out rfl OZ.out ?_))
        refine bodyPost_ret (v := .tuple #[.agg Z, .int .i64 3]) (results_cell_tmp Tryd.results29 _ _ w.heap.size _ _ _ _ _ (by rfl) (setRow_heap _ _ _ _ _ _ RR.out) Tryd.underlying24 rfl UZ.out (by rfl)) rfl ?_
        rw [HN.out]
        exact ⟨by rw [HZ.out], BQ.out.trans ⟨rfl, rfl, rfl, by simp, fun z hz => setRow_other _ _ _ _ (by omega)⟩⟩
      | some ga =>
        obtain ⟨wa, la⟩ := W16T.out _ _ hgw
        have HWA := Lib.hid wa
        have HN0 := Lib.hid (show R = if ga.length = 8 then some ga else none by rw [← HW.out]; unfold wholeG; rw [hgw])
        rw [hgw] at GW
        clear hgw wa
        go_upto_region 13 with (first
          | (go_at_call 44; (refine (GW.out _).mono ?_); rintro e w3 ⟨A3, n3, c3, rfl, l3, g3, g3', O3, B3⟩
             have HB3 := Lib.hid (HB.out.below B3)))
        rw [l3] at HN0 la
        have N3 := Lib.hid O3.nums
        have hn3 : n3 ≤ 8001 := by have := HL.out; omega
        clear O3 B3 l3 g3 g3' la
        by_cases h8 : n3 = 8
        · subst h8
          have HN := Lib.hid (HN0.out.trans (if_pos rfl))
          go_wp2_with (first
            | (go_at_call 11; (refine (six_make A3 8 c3 ga w3 N3.out HWA.out (by omega)).mono ?_); rintro e w8 ⟨rfl, B8⟩
               have HB8 := Lib.hid (HB3.out.below B8)
               have RR := Lib.hid (HB8.out.row RW.out))
            | (refine wpList_store_row rfl 24 (.tmp 2) (.tmp 81) rfl w.heap.size _ rfl rfl _ _ RR.out (UV.out _) (ZV.out _) (OV.out _) ?_))
          refine bodyPost_ret (v := .tuple #[.agg (adrV true (sixB ga)), .int .i64 0]) (results_cell_tmp Tryd.results29 _ _ w.heap.size _ _ _ _ _ (by rfl) (setRow_heap _ _ _ _ _ _ RR.out) Tryd.underlying24 rfl (UV.out _) (by rfl)) rfl ?_
          rw [HN.out]
          exact ⟨rfl, (BW.out.trans (HB8.out.mono BW.out.size)).trans ⟨rfl, rfl, rfl, by simp, fun z hz => setRow_other _ _ _ _ (by omega)⟩⟩
        · have HN := Lib.hid (HN0.out.trans (if_neg h8))
          have h8z : ((n3 : Int) == 8) = false := by simp; omega
          have h8y : ¬ (n3 : Int) = 8 := by omega
          have RR := Lib.hid (show w3.heap[w.heap.size]? = some (.cells Z 24 (0, 0)) from HB3.out.row RW.out)
          have BQ := Lib.hid (BW.out.trans (HB3.out.mono BW.out.size))
          go_wp2_with (first
            | (refine wpList_zero rfl 24 rfl _ HZB.out ?_)
            | (refine wpList_store_row rfl 24 (.tmp 2) (.tmp 79) rfl w.heap.size _ rfl rfl _ _ RR.out UZ.out rfl OZ.out ?_))
          refine bodyPost_ret (v := .tuple #[.agg Z, .int .i64 3]) (results_cell_tmp Tryd.results29 _ _ w.heap.size _ _ _ _ _ (by rfl) (setRow_heap _ _ _ _ _ _ RR.out) Tryd.underlying24 rfl UZ.out (by rfl)) rfl ?_
          rw [HN.out]
          exact ⟨by rw [HZ.out], BQ.out.trans ⟨rfl, rfl, rfl, by simp, fun z hz => setRow_other _ _ _ _ (by omega)⟩⟩
end Go.Proofs.YtmkekdmkefkfiaaDoor.adC
