/-
  The walk of the third statement.
-/
import Derived.Test.YthilojkhedcihaaShaQ
import Derived.Still
namespace Go.Proofs.Ythilojkhedcihaa.shaC
open Go.ChangeShapes Go.WideShapes Go.ChangeAt Go.RowKit
open Go.Proofs.Ythilojkhedcihaa.memC Go.Proofs.Ythilojkhedcihaa.genC Go.Proofs.Ythilojkhedcihaa.shaM Go.Proofs.Ythilojkhedcihaa.shaN Go.Proofs.Ythilojkhedcihaa.butC Go.Proofs.Ythilojkhedcihaa.partsC Go.Proofs.Ythilojkhedcihaa.freeC
set_option linter.unusedVariables false
theorem int_size : (Try.prog.info? 3).map (·.size) = some 1 := by kernel_rfl
theorem int_info : ∃ i, Try.prog.info? 3 = some i ∧ i.size = 1 := by
  obtain ⟨i, h1, h2⟩ := Option.map_eq_some_iff.1 int_size
  exact ⟨i, h1, h2⟩
/-- b[f:e] -/
theorem cut_mid (A : Option Addr) (n c f e : Nat) (h1 : f ≤ e) (h2 : e ≤ c) (w : World) :
    (Instr.slice 22 (.slice A n c) (some (.int .i64 (f : Int))) (some (.int .i64 (e : Int))) none).run Try.prog w = .ok (.slice (if c = f then A else A.map (·.add f)) (e - f) (c - f)) w := by
  have k1 : (f : Int) ≤ (e : Int) := by omega
  have k2 : (e : Int) ≤ (c : Int) := by omega
  by_cases h : c = f
  · subst h
    rw [if_pos rfl]
    go_simp
  · rw [if_neg h]
    go_simp
/-- b[f:] -/
theorem cut_end (A : Option Addr) (n c f : Nat) (h1 : f ≤ n) (h2 : n ≤ c) (w : World) :
    (Instr.slice 22 (.slice A n c) (some (.int .i64 (f : Int))) none none).run Try.prog w = .ok (.slice (if c = f then A else A.map (·.add f)) (n - f) (c - f)) w := by
  have k1 : (f : Int) ≤ (n : Int) := by omega
  by_cases h : c = f
  · subst h
    rw [if_pos rfl]
    go_simp
  · rw [if_neg h]
    go_simp
/-- block k holds a Sum, and what was there stands -/
def Su (w : World) (k : Nat) (zs : List Int) (w' : World) : Prop := SumV w' k zs ∧ Below w.heap.size w w'
theorem Su.alloc {w w' : World} {k : Nat} {zs : List Int} (h : Su w k zs w') (o : Obj) : Su w k zs (w'.alloc o) := ⟨SumAt.alloc h.1 o, h.2.alloc h.2.size o⟩
theorem Su.drew {w w' : World} {k : Nat} {zs : List Int} (h : Su w k zs w') : Su w k zs w'.drew := ⟨SumAt.heap h.1 rfl, h.2.drew⟩
theorem Su.below {w w' w'' : World} {k : Nat} {zs : List Int} (h : Su w k zs w') (b : Below w'.heap.size w' w'') : Su w k zs w'' := ⟨SumAt.below h.1 b (SumAt.lt h.1), h.2.trans (b.mono h.2.size)⟩
theorem still_load {P : Program} {ops : Array Oper} {w : World} {Q : Act → Prop} {o : Oper} {rest : List Oper} {a : Act} (hgd : o.guard = none) (ty : TypeId) (x : Operand) (ho : o.op = .load ty x)
    (g : Nat) (hx : a.eval x = .pointer (some ⟨g, 0, none⟩)) (t : TypeId) (cs : Array Value) (fr : Nat × Nat) (d : TypeDesc) (hg : w.heap[g]? = some (.cells cs t fr))
    (hu : P.underlying ty = some d) (hd : (match d with | .struct _ | .array _ _ => true | _ => false) = true) (hi : (P.info? ty).map (·.size) = some cs.size)
    (h : wpStill P ops w Q rest (a.put o.dst (.agg cs))) : wpStill P ops w Q (o :: rest) a :=
  wpStill_step fun K hK => by
    rw [if_pos (show Region.wanted o (yielded ops a.tmps) = true by simp [Region.wanted, hgd])]
    unfold Oper.still execOp
    simp only [ho, hx, Instr.loadAt, Instr.sureAddr, Sem.run_bind, Sem.run_pure, Result.andThen_ok, run_loadVar_row w g t ty cs fr d hg hu hd hi]
    exact ⟨rfl, hK _ h⟩
def tabC : List (Option Nat) := [none, none, none, none, some 13, none, none, none, none, none, none, none, none, none, none, none, none, none, none, none, none, none, none, none, none, none, none, none, none, none, none, none, none, none, none, none, none, none, none, none, none, none, none, none, some 0, some 1, some 2, some 3, some 4, some 5, some 6, some 7, some 8, some 9, some 10, some 11, some 12]
/-- what the operations of the last region give -/
def CV (zs bs : List Int) (X : Array Value) (A A2 : Option Addr) (n c f : Nat) : Nat → Value → World → Prop
  | 0, v, _ => v = .agg (sumL zs).toArray
  | 1, v, _ => v = .slice A n c
  | 2, v, _ => v = .int .i64 (f : Int)
  | 3, v, _ => v = .slice A2 (n - f) (c - f)
  | 4, v, _ => v = .agg (sumL bs).toArray
  | 5, v, _ => v = .agg X
  | 6, v, _ => v = .slice A n c
  | 7, v, w => ∃ g, v = .slice (some ⟨g, 0, none⟩) 1 1 ∧ Parts w w.heap.size (some ⟨g, 0, none⟩) [⟨A, n, c, bs⟩]
  | 8, v, _ => v = .agg X
  | 9, v, _ => v = .bool true
  | 10, v, _ => v = .bool true
  | 11, v, _ => v = .bool true
  | 12, v, _ => v = .bool true
  | 13, v, _ => v = .bool true
  | _, _, _ => True
theorem CV.keep (zs bs : List Int) (X : Array Value) (A A2 : Option Addr) (n c f : Nat) (i : Nat) (v : Value) (w w' : World) (hb : Below w.heap.size w w') (h : CV zs bs X A A2 n c f i v w) : CV zs bs X A A2 n c f i v w' := by
  by_cases e : i = 7
  · subst e
    obtain ⟨g, e1, h1⟩ := h
    exact ⟨g, e1, h1.below hb hb.size⟩
  · unfold CV at h ⊢
    split at h <;> first | exact h | exact absurd rfl e
theorem cuts_long (A : Option Addr) (n c : Nat) (v : Array Value) (hv : v.size = 3) (w : World) (hn : n ≤ 9223372036854775807) (h : 2000 < n) : Calls Try.prog 5 #[.slice A n c, .agg v] w (AliveRet w) := by
  have d1 : decide (2000 < n) = true := by simpa using h
  have BB : Below w.heap.size w (w.alloc (.cells v 39)) := alloc_below _ _
  clear h
  go_enter Try.func5, Try.ntmps5
  go_wp2_with (first
    | (go_at_call 7; (with_reducible refine (long_any A _ _ _ hn).mono ?_); rintro e w' ⟨rfl, rfl⟩)
    | (go_at_call 8; refine (alive_any _).mono ?_; rintro e w' ⟨rfl, B⟩))
  go_ret
  exact ⟨rfl, BB.trans (B.mono BB.size)⟩
set_option maxRecDepth 100000 in
set_option maxHeartbeats 1000000 in
theorem cuts_short (A : Option Addr) (n c : Nat) (bs : List Int) (z0 z1 z2 : Int) (w : World) (hb : Nums .u8 w w.heap.size A n bs) (hy : ∀ x ∈ bs, Byte x) (hc : n ≤ c) (hc2 : c ≤ 9223372036854775807) (h : n ≤ 2000)
    (hz : ∀ z ∈ [z0, z1, z2], -9223372036854775808 ≤ z ∧ z ≤ 9223372036854775807) :
    Calls Try.prog 5 #[.slice A n c, .agg #[.int .i64 z0, .int .i64 z1, .int .i64 z2]] w (AliveRet w) := by
  have d1 : decide (2000 < n) = false := by simpa using h
  have hn : n ≤ 9223372036854775807 := by omega
  have hn2 : n ≤ 2000 := h
  have HB := Lib.hid hb
  have HY := Lib.hid hy
  have HZ := Lib.hid hz
  obtain ⟨Z, hZ⟩ : ∃ Z, Z = zeroC.toArray := ⟨_, rfl⟩
  have hzv := zero70
  rw [← hZ] at hzv
  have U1 := Lib.hid (show (Try.prog.info? 33).map (·.size) = some ((sumL []).toArray).size by rw [sum_info]; simp [sumL_len])
  have ZS := Lib.hid (show Z.size = ((sumL []).toArray).size by rw [hZ, sumL_nil])
  have HO := Lib.hid (sumC_one (gOf (hashH [])) (restL []) ([] : List Int).length)
  have BB : Below w.heap.size w (w.alloc (.cells #[.int .i64 z0, .int .i64 z1, .int .i64 z2] 39)) := alloc_below _ _
  have r0 : (w.alloc (.cells #[.int .i64 z0, .int .i64 z1, .int .i64 z2] 39)).heap[w.heap.size]? = some (.cells #[.int .i64 z0, .int .i64 z1, .int .i64 z2] 39 (0, 0)) := heap_alloc_new _ _
  have HR := Lib.hid r0
  have HBB := Lib.hid BB
  have HSZ := Lib.hid (alloc_size w (.cells #[.int .i64 z0, .int .i64 z1, .int .i64 z2] 39))
  clear h hb hy hz hZ r0 BB
  go_enter Try.func5, Try.ntmps5
  go_upto_region 1 with fail
  generalize w.alloc (.cells #[.int .i64 z0, .int .i64 z1, .int .i64 z2] 39) = w0 at *
  go_upto_region 4 with (first
    | (go_at_call 7; (with_reducible refine (long_any A _ _ _ hn).mono ?_); rintro e w' ⟨rfl, rfl⟩)
    | (go_at_call 11; refine (new_any _).mono ?_; rintro e w1 ⟨rfl, B1⟩)
    | (refine wpList_store_row rfl 33 (.tmp 5) (.tmp 13) rfl w1.heap.size _ rfl rfl _ _ (heap_alloc_new _ _) U1.out ZS.out HO.out ?_))
  rw [World.setRow_alloc_new]
  have S1 : Su w w1.heap.size (bs.take 0) (w1.alloc (.cells (sumL []).toArray 33)) :=
    ⟨SumAt.new w1 (gOf_len (hashH_ok []).1) (rest_len []), (HBB.out.trans (B1.mono HBB.out.size)).alloc (HBB.out.trans (B1.mono HBB.out.size)).size _⟩
  have hlk : w.heap.size < w1.heap.size := by have := B1.size; have := HSZ.out; omega
  have R1 : (w1.alloc (.cells (sumL []).toArray 33)).heap[w.heap.size]? = some (.cells #[.int .i64 z0, .int .i64 z1, .int .i64 z2] 39 (0, 0)) := by
    rw [(alloc_below _ _).block _ hlk, B1.block _ (by rw [HSZ.out]; omega)]; exact HR.out
  generalize w1.alloc (.cells (sumL []).toArray 33) = w2 at *
  generalize w1.heap.size = k at *
  have HS1 := Lib.hid S1
  have q0 : w2.cell? ⟨w.heap.size, 0, none⟩ = some (.int .i64 z0) := by rw [cell_of_row _ _ 0 _ _ (0, 0) R1]; rfl
  have q1 : w2.cell? ⟨w.heap.size, 1, none⟩ = some (.int .i64 z1) := by rw [cell_of_row _ _ 1 _ _ (0, 0) R1]; rfl
  have q2 : w2.cell? ⟨w.heap.size, 2, none⟩ = some (.int .i64 z2) := by rw [cell_of_row _ _ 2 _ _ (0, 0) R1]; rfl
  clear S1 R1 B1 hzv
  go_upto_region 6 with fail
  clear q0 q1 q2
  go_wp2_with fail
  go_loopw [6, 15] (fun fv iv wr => ∃ f i : Nat, f ≤ n ∧ i ≤ 3 ∧ fv = .int .i64 f ∧ iv = .int .i64 i ∧ Su w k (bs.take f) wr) (fun _ iv _ => 3 - (intOf iv).toNat)
  case atStart => exact ⟨0, 0, by omega, by omega, rfl, rfl, HS1.out⟩
  case round =>
    obtain ⟨f, i, hf, hi, rfl, rfl, SS⟩ := hrel
    have HSS := Lib.hid SS
    clear SS
    by_cases hlt : i < 3
    · have hv : (#[.int .i64 z0, .int .i64 z1, .int .i64 z2] : Array Value)[i]? = some (.int .i64 ([z0, z1, z2].getD i 0)) := by
        rcases (show i = 0 ∨ i = 1 ∨ i = 2 by omega) with rfl | rfl | rfl <;> rfl
      have hzb : -9223372036854775808 ≤ [z0, z1, z2].getD i 0 ∧ [z0, z1, z2].getD i 0 ≤ 9223372036854775807 := by
        refine HZ.out _ ?_
        rcases (show i = 0 ∨ i = 1 ∨ i = 2 by omega) with rfl | rfl | rfl <;> simp
      obtain ⟨i1, hi1, hs1⟩ := int_info
      have ix : (Instr.index 39 (.agg #[.int .i64 z0, .int .i64 z1, .int .i64 z2]) (.int .i64 (i : Int))).run Try.prog wr = .ok (.int .i64 ([z0, z1, z2].getD i 0)) wr :=
        Go.Proofs.Ythilojkhedcihaa.idxC.run_idx wr _ _ 3 .i64 i1 _ i _ Try.underlying39 rfl hi1 hs1 hlt hv
      have hiz : (i : Int) < 3 := by omega
      generalize [z0, z1, z2].getD i 0 = z at *
      obtain ⟨zl, zh⟩ := hzb
      obtain ⟨e, hfe, hen, hcase⟩ : ∃ e : Nat, f ≤ e ∧ e ≤ n ∧ ((z ≤ 0 ∧ e = f) ∨ (0 < z ∧ n ≤ f ∧ e = f) ∨ (0 < z ∧ f < n ∧ (e : Int) = (f : Int) + z % ((n : Int) - (f : Int) + 1))) := by
        by_cases h1 : z ≤ 0
        · exact ⟨f, Nat.le_refl _, hf, .inl ⟨h1, rfl⟩⟩
        · by_cases h2 : n ≤ f
          · exact ⟨f, Nat.le_refl _, hf, .inr (.inl ⟨by omega, h2, rfl⟩)⟩
          · have b0 := Int.emod_nonneg z (show (n : Int) - (f : Int) + 1 ≠ 0 by omega)
            have b1 := Int.emod_lt_of_pos z (show 0 < (n : Int) - (f : Int) + 1 by omega)
            generalize z % ((n : Int) - (f : Int) + 1) = r at *
            exact ⟨(f + r.toNat), by omega, by omega, .inr (.inr ⟨by omega, by omega, by omega⟩)⟩
      have sc := cut_mid A n c f e hfe (by omega)
      obtain ⟨A2, hA2⟩ : ∃ A2, A2 = (if c = f then A else A.map (·.add f)) := ⟨_, rfl⟩
      obtain ⟨q, hq⟩ : ∃ q, q = e - f := ⟨_, rfl⟩
      rw [← hA2, ← hq] at sc
      have htk : bs.take f ++ (bs.drop f).take q = bs.take e := by
        have : e = f + q := by omega
        rw [this, List.take_add]
      obtain ⟨S, hS⟩ : ∃ S, S = (sumL (bs.take f)).toArray := ⟨_, rfl⟩
      obtain ⟨S2, hS2⟩ : ∃ S2, S2 = (sumL (bs.take e)).toArray := ⟨_, rfl⟩
      have AD := Lib.hid (fun (w' : World) (B : Below w.heap.size w w') => (add_any (bs.take f) ((bs.drop f).take q) A2 q (c - f) w' (by
          have h1 := (((HB.out.below B).more B.size).cut hf hc).upto (j := q) (by omega)
          rw [hA2]; exact h1) (by omega) (by omega) (fun x hx => HY.out x (List.mem_of_mem_take hx)) (fun x hx => HY.out x (List.mem_of_mem_drop (List.mem_of_mem_take hx))) (by rw [List.length_take, HB.out.len]; omega)).mono fun e' w'' h => (show e' = .returned (.agg S2) ∧ Below w'.heap.size w' w'' from ⟨by rw [h.1, htk, hS2], h.2⟩))
      rw [← hS] at AD
      have RW := Lib.hid (show wr.heap[k]? = some (.cells S 33 (0, 0)) by rw [hS]; exact HSS.out.1.row)
      have U2 := Lib.hid (show (Try.prog.info? 33).map (·.size) = some S.size by rw [sum_info, hS]; simp [sumL_len])
      have U3 := Lib.hid (show (Try.prog.info? 33).map (·.size) = some S2.size by rw [sum_info, hS2]; simp [sumL_len])
      have ZS2 := Lib.hid (show ((sumL (bs.take f)).toArray).size = S2.size by rw [hS2]; simp [sumL_len])
      have HO2 := Lib.hid (show S2.all (·.oneCell') = true by rw [hS2]; exact sumC_one _ _ _)
      have HS2 := Lib.hid hS2
      clear hS hS2 hq
      have HA2 := Lib.hid hA2
      clear hv hi1 hs1 hA2 htk
      rcases hcase with ⟨h1, h2⟩ | ⟨h1, h2, h3⟩ | ⟨h1, h2, h3⟩
      rotate_left 2
      · obtain ⟨d, hd⟩ : ∃ d : Nat, d = n - f := ⟨_, rfl⟩
        obtain ⟨D, hD⟩ : ∃ D : Nat, D = d + 1 := ⟨_, rfl⟩
        obtain ⟨r, hr⟩ : ∃ r : Nat, r = e - f := ⟨_, rfl⟩
        have g1 : (n : Int) - (f : Int) = (d : Int) := by omega
        have g2 : (d : Int) + 1 = (D : Int) := by omega
        have g3 : z % (D : Int) = (r : Int) := by rw [← g2, ← g1]; omega
        have g4 : z.tmod (D : Int) = (r : Int) := by rw [Int.tmod_eq_emod_of_nonneg (show 0 ≤ z by omega)]; exact g3
        have g5 : (f : Int) + (r : Int) = (e : Int) := by omega
        have g6 : ¬ (D : Int) = 0 := by omega
        have g7 : (f : Int) < (n : Int) := by omega
        have g8 : (e : Int) ≤ 9223372036854775807 := by omega
        have g9 : (D : Int) ≤ 9223372036854775807 := by omega
        clear hd hD hr h3
        go_upto_region 11 with fail
        clear g1 g2 g3 g4 g5 g6 g7 g8 g9
        refine wp_region_still_tail 5 (by kernel_rfl) (by kernel_rfl) ?_
        simp only [List.take_succ_cons, List.take_zero, List.drop_succ_cons, List.drop_zero]
        refine still_load rfl 33 (.tmp 5) rfl k rfl _ _ (0, 0) _ RW.out Try.underlying33 rfl U2.out ?_
        repeat still_step
        refine wpStill_nil ?_
        change wpList _ _ _ _ _ wr.drew
        go_wp2_with (first
          | (go_at_call 12; refine (AD.out wr.drew HSS.out.2.drew).mono ?_; rintro e' w4 ⟨rfl, B4⟩
             have S4 := Lib.hid (HSS.out.drew.below B4)
             have R4 := Lib.hid S4.out.1.row)
          | (refine wpList_store_row rfl 33 (.tmp 5) (.tmp 41) rfl k _ rfl rfl _ _ R4.out U3.out ZS2.out HO2.out ?_))
        go_roundw
        case rel =>
          refine ⟨_, i + 1, hen, by omega, rfl, by go_num, ⟨⟨by rw [setRow_heap _ _ _ _ _ _ R4.out, HS2.out]; rfl, gOf_len (hashH_ok _).1, rest_len _⟩, ?_⟩⟩
          exact S4.out.2.trans ⟨rfl, rfl, rfl, by simp, fun y hy => setRow_other _ _ _ _ (by omega)⟩
        case measure => simp [intOf]; omega
      · subst h2
        have g1 : ¬ (0 < z) := by omega
        go_upto_region 11 with fail
        clear g1
        refine wp_region_still_tail 5 (by kernel_rfl) (by kernel_rfl) ?_
        simp only [List.take_succ_cons, List.take_zero, List.drop_succ_cons, List.drop_zero]
        refine still_load rfl 33 (.tmp 5) rfl k rfl _ _ (0, 0) _ RW.out Try.underlying33 rfl U2.out ?_
        repeat still_step
        refine wpStill_nil ?_
        change wpList _ _ _ _ _ wr.drew
        go_wp2_with (first
          | (go_at_call 12; refine (AD.out wr.drew HSS.out.2.drew).mono ?_; rintro e' w4 ⟨rfl, B4⟩
             have S4 := Lib.hid (HSS.out.drew.below B4)
             have R4 := Lib.hid S4.out.1.row)
          | (refine wpList_store_row rfl 33 (.tmp 5) (.tmp 41) rfl k _ rfl rfl _ _ R4.out U3.out ZS2.out HO2.out ?_))
        go_roundw
        case rel =>
          refine ⟨_, i + 1, hen, by omega, rfl, by go_num, ⟨⟨by rw [setRow_heap _ _ _ _ _ _ R4.out, HS2.out]; rfl, gOf_len (hashH_ok _).1, rest_len _⟩, ?_⟩⟩
          exact S4.out.2.trans ⟨rfl, rfl, rfl, by simp, fun y hy => setRow_other _ _ _ _ (by omega)⟩
        case measure => simp [intOf]; omega
      · subst h3
        have g7 : ¬ (e : Int) < (n : Int) := by omega
        go_upto_region 11 with fail
        clear g7
        refine wp_region_still_tail 5 (by kernel_rfl) (by kernel_rfl) ?_
        simp only [List.take_succ_cons, List.take_zero, List.drop_succ_cons, List.drop_zero]
        refine still_load rfl 33 (.tmp 5) rfl k rfl _ _ (0, 0) _ RW.out Try.underlying33 rfl U2.out ?_
        repeat still_step
        refine wpStill_nil ?_
        change wpList _ _ _ _ _ wr.drew
        go_wp2_with (first
          | (go_at_call 12; refine (AD.out wr.drew HSS.out.2.drew).mono ?_; rintro e' w4 ⟨rfl, B4⟩
             have S4 := Lib.hid (HSS.out.drew.below B4)
             have R4 := Lib.hid S4.out.1.row)
          | (refine wpList_store_row rfl 33 (.tmp 5) (.tmp 41) rfl k _ rfl rfl _ _ R4.out U3.out ZS2.out HO2.out ?_))
        go_roundw
        case rel =>
          refine ⟨_, i + 1, hen, by omega, rfl, by go_num, ⟨⟨by rw [setRow_heap _ _ _ _ _ _ R4.out, HS2.out]; rfl, gOf_len (hashH_ok _).1, rest_len _⟩, ?_⟩⟩
          exact S4.out.2.trans ⟨rfl, rfl, rfl, by simp, fun y hy => setRow_other _ _ _ _ (by omega)⟩
        case measure => simp [intOf]; omega
    · have e : i = 3 := by omega
      subst e
      clear hlt hi
      have sc := cut_end A n c f hf hc
      obtain ⟨A2, hA2⟩ : ∃ A2, A2 = (if c = f then A else A.map (·.add f)) := ⟨_, rfl⟩
      rw [← hA2] at sc
      obtain ⟨zs, hzs⟩ : ∃ zs, zs = bs.take f := ⟨_, rfl⟩
      rw [← hzs] at HSS
      have hcat : zs ++ bs.drop f = bs := by rw [hzs]; exact List.take_append_drop _ _
      have AD := Lib.hid (fun (w' : World) (B : Below w.heap.size w w') => (add_any zs (bs.drop f) A2 (n - f) (c - f) w' (by
          have h1 := ((HB.out.below B).more B.size).cut hf hc
          rw [hA2]; exact h1) (by omega) (by omega) (fun x hx => HY.out x (by rw [hzs] at hx; exact List.mem_of_mem_take hx)) (fun x hx => HY.out x (List.mem_of_mem_drop hx)) (by rw [hzs, List.length_take, HB.out.len]; omega)).mono fun e' w'' h => (show e' = .returned (.agg (sumL bs).toArray) ∧ Below w'.heap.size w' w'' from ⟨by rw [h.1, hcat], h.2⟩))
      have DG := Lib.hid (fun (w' : World) => (digest_any bs w' HY.out (by rw [HB.out.len]; omega)).mono fun e w'' h => (show e = .returned (.agg (digA bs)) ∧ Below w'.heap.size w' w'' from h))
      have PA := Lib.hid (fun (w' : World) (B : Below w.heap.size w w') => (show PartAt w' w'.heap.size ⟨A, n, c, bs⟩ from ⟨(HB.out.below B).more B.size, by show n ≤ 10000; omega, HY.out, hc, hc2⟩))
      have OF := Lib.hid (fun (w' : World) (g : Nat) (hP : Parts w' w'.heap.size (some ⟨g, 0, none⟩) [⟨A, n, c, bs⟩]) => (ofp_any (some ⟨g, 0, none⟩) 1 1 _ w' hP rfl (by decide)).mono fun e w'' h => (show e = .returned (.agg (digA bs)) ∧ Below w'.heap.size w' w'' from ⟨by have := h.1; rw [cat1] at this; exact this, h.2⟩))
      have U1 := Lib.hid (show (Try.prog.info? 33).map (·.size) = some ((sumL zs).toArray).size by rw [sum_info]; simp [sumL_len])
      have hm := dig_guard
      have heq := dig_eq bs
      generalize digA bs = X at *
      clear hzs hcat hA2
      go_upto_region 14 with fail
      refine with_act fun a0 ha0 => ?_
      have hl : tabC.length = a0.tmps.size := by rw [ha0]; rfl
      have hk5 : a0.tmps[5]?.getD undef = .pointer (some ⟨k, 0, none⟩) := by rw [ha0]; rfl
      have hk0 : a0.tmps[0]?.getD undef = .slice A n c := by rw [ha0]; rfl
      have hk6 : a0.tmps[6]?.getD undef = .int .i64 (f : Int) := by rw [ha0]; rfl
      refine wp_region_vals (by kernel_rfl) tabC (by kernel_rfl) (by kernel_rfl) hl (fun i => if i = 13 then .bool false else undef) (by rw [ha0]; rfl) (Su w k zs) (CV zs bs X A A2 n c f) HSS.out.drew (CV.keep zs bs X A A2 n c f) ⟨?_, ?_, ?_, ?_, ?_, ?_, ?_, ?_, ?_, ?_, ?_, ?_, ?_, ?_, trivial⟩ ?_
      · refine step_plain [] (by kernel_rfl) rfl fun us w' hG hV => ?_
        have o5 := (frame_old2 (us := us) (a := a0) (show (tabC[5]?).join = none from rfl)).trans hk5
        generalize frame tabC a0 us = fr at *
        exact load_ok 33 5 rfl k o5 _ _ (0, 0) _ hG.1.row Try.underlying33 rfl U1.out hG rfl
      · refine step_plain [] (by kernel_rfl) rfl fun us w' hG hV => ?_
        have o0 := (frame_old2 (us := us) (a := a0) (show (tabC[0]?).join = none from rfl)).trans hk0
        generalize frame tabC a0 us = fr at *
        exact val_ok (v := .slice A n c) (w' := w') (by go_simp) hG (Below.refl _ _) rfl
      · refine step_plain [] (by kernel_rfl) rfl fun us w' hG hV => ?_
        have o6 := (frame_old2 (us := us) (a := a0) (show (tabC[6]?).join = none from rfl)).trans hk6
        generalize frame tabC a0 us = fr at *
        exact val_ok (v := .int .i64 (f : Int)) (w' := w') (by go_simp) hG (Below.refl _ _) rfl
      · refine step_plain [1, 2] (by kernel_rfl) rfl fun us w' hG hV => ?_
        have e1 : us 1 = .slice A n c := hV 1 (by simp)
        have v1 := (frame_at2 (us := us) hl (show (tabC[45]?).join = some 1 from rfl)).trans e1
        have e2 : us 2 = .int .i64 (f : Int) := hV 2 (by simp)
        have v2 := (frame_at2 (us := us) hl (show (tabC[46]?).join = some 2 from rfl)).trans e2
        have sl := sc w'
        generalize frame tabC a0 us = fr at *
        exact val_ok (v := .slice A2 (n - f) (c - f)) (w' := w') (by go_simp) hG (Below.refl _ _) rfl
      · refine step_plain [0, 3] (by kernel_rfl) rfl fun us w' hG hV => ?_
        have e0 : us 0 = .agg (sumL zs).toArray := hV 0 (by simp)
        have v0 := (frame_at2 (us := us) hl (show (tabC[44]?).join = some 0 from rfl)).trans e0
        have e3 : us 3 = .slice A2 (n - f) (c - f) := hV 3 (by simp)
        have v3 := (frame_at2 (us := us) hl (show (tabC[47]?).join = some 3 from rfl)).trans e3
        generalize frame tabC a0 us = fr at *
        exact call_ok (f := 12) (args := #[.agg (sumL zs).toArray, .slice A2 (n - f) (c - f)]) (by go_simp) ((AD.out w' hG.2).mono fun e w'' h => ⟨_, h.1, hG.below h.2, h.2, rfl⟩)
      · refine step_plain [4] (by kernel_rfl) rfl fun us w' hG hV => ?_
        have e4 : us 4 = .agg (sumL bs).toArray := hV 4 (by simp)
        have v4 := (frame_at2 (us := us) hl (show (tabC[48]?).join = some 4 from rfl)).trans e4
        generalize frame tabC a0 us = fr at *
        exact call_ok (f := 13) (args := #[.agg (sumL bs).toArray]) (by go_simp) ((DG.out w').mono fun e w'' h => ⟨_, h.1, hG.below h.2, h.2, rfl⟩)
      · refine step_plain [] (by kernel_rfl) rfl fun us w' hG hV => ?_
        have o0 := (frame_old2 (us := us) (a := a0) (show (tabC[0]?).join = none from rfl)).trans hk0
        generalize frame tabC a0 us = fr at *
        exact val_ok (v := .slice A n c) (w' := w') (by go_simp) hG (Below.refl _ _) rfl
      · refine step_plain [6] (by kernel_rfl) rfl fun us w' hG hV => ?_
        have e6 : us 6 = .slice A n c := hV 6 (by simp)
        have v6 := (frame_at2 (us := us) hl (show (tabC[50]?).join = some 6 from rfl)).trans e6
        generalize frame tabC a0 us = fr at *
        exact val_ok (v := .slice (some ⟨w'.heap.size, 0, none⟩) 1 1) (w' := w'.alloc (.cells #[.slice A n c] 22)) (by go_simp) (hG.alloc _) (alloc_below _ _) ⟨_, rfl, parts1 (PA.out w' hG.2) _⟩
      · refine step_plain [7] (by kernel_rfl) rfl fun us w' hG hV => ?_
        obtain ⟨g, e7, hP⟩ : ∃ g, us 7 = .slice (some ⟨g, 0, none⟩) 1 1 ∧ Parts w' w'.heap.size (some ⟨g, 0, none⟩) [⟨A, n, c, bs⟩] := hV 7 (by simp)
        have v7 := (frame_at2 (us := us) hl (show (tabC[51]?).join = some 7 from rfl)).trans e7
        generalize frame tabC a0 us = fr at *
        exact call_ok (f := 9) (args := #[.slice (some ⟨g, 0, none⟩) 1 1]) (by go_simp) ((OF.out w' g hP).mono fun e w'' h => ⟨_, h.1, hG.below h.2, h.2, rfl⟩)
      · refine step_plain [5, 8] (by kernel_rfl) rfl fun us w' hG hV => ?_
        have e5 : us 5 = .agg X := hV 5 (by simp)
        have v5 := (frame_at2 (us := us) hl (show (tabC[49]?).join = some 5 from rfl)).trans e5
        have e8 : us 8 = .agg X := hV 8 (by simp)
        have v8 := (frame_at2 (us := us) hl (show (tabC[52]?).join = some 8 from rfl)).trans e8
        generalize frame tabC a0 us = fr at *
        exact val_ok (v := .bool true) (w' := w') (by go_simp) hG (Below.refl _ _) rfl
      · refine step_plain [9] (by kernel_rfl) rfl fun us w' hG hV => ?_
        have e9 : us 9 = .bool true := hV 9 (by simp)
        have v9 := (frame_at2 (us := us) hl (show (tabC[53]?).join = some 9 from rfl)).trans e9
        generalize frame tabC a0 us = fr at *
        exact val_ok (v := .bool true) (w' := w') (by go_simp) hG (Below.refl _ _) rfl
      · refine step_guard [10] (by kernel_rfl) (j := 10) (t := 54) (b := true) rfl (by simp) rfl hl rfl (fun v w h => h) fun us w' hG hV => ?_
        have e10 : us 10 = .bool true := hV 10 (by simp)
        have v10 := (frame_at2 (us := us) hl (show (tabC[54]?).join = some 10 from rfl)).trans e10
        generalize frame tabC a0 us = fr at *
        exact call_ok (f := 8) (args := #[]) (by go_simp) ((alive_any w').mono fun e w'' h => ⟨_, h.1, hG.below h.2, h.2, rfl⟩)
      · refine step_plain [10, 11] (by kernel_rfl) rfl fun us w' hG hV => ?_
        have e10 : us 10 = .bool true := hV 10 (by simp)
        have v10 := (frame_at2 (us := us) hl (show (tabC[54]?).join = some 10 from rfl)).trans e10
        have e11 : us 11 = .bool true := hV 11 (by simp)
        have v11 := (frame_at2 (us := us) hl (show (tabC[55]?).join = some 11 from rfl)).trans e11
        generalize frame tabC a0 us = fr at *
        exact val_ok (v := .bool true) (w' := w') (by go_simp) hG (Below.refl _ _) rfl
      · refine step_plain [12] (by kernel_rfl) rfl fun us w' hG hV => ?_
        have e12 : us 12 = .bool true := hV 12 (by simp)
        have v12 := (frame_at2 (us := us) hl (show (tabC[56]?).join = some 12 from rfl)).trans e12
        generalize frame tabC a0 us = fr at *
        exact val_ok (v := .bool true) (w' := w') (by go_simp) hG (Below.refl _ _) rfl
      · intro us w' hG hV
        have e13 : us 13 = .bool true := hV 13 (by decide)
        subst ha0
        simp only [frame, tabC, fill]
        go_wp2_with fail
        go_ret
        exact ⟨rfl, hG.2⟩
theorem cuts_walk (A : Option Addr) (n c : Nat) (bs zs : List Int) (w : World) (hb : Nums .u8 w w.heap.size A n bs) (hy : ∀ x ∈ bs, Byte x) (hc : n ≤ c) (hc2 : c ≤ 9223372036854775807) (hl : zs.length = 3)
    (hz : ∀ z ∈ zs, -9223372036854775808 ≤ z ∧ z ≤ 9223372036854775807) :
    Calls Try.prog 5 #[.slice A n c, .agg (zs.map (Value.int .i64)).toArray] w (AliveRet w) := by
  by_cases h : 2000 < n
  · exact cuts_long A n c _ (by simp [hl]) w (by omega) h
  · obtain ⟨z0, z1, z2, rfl⟩ := openC.list3 hl
    exact cuts_short A n c bs z0 z1 z2 w hb hy hc hc2 (by omega) hz
end Go.Proofs.Ythilojkhedcihaa.shaC
