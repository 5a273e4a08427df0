/-
  3 texts of a proof, joined.
-/
import Derived.Test.YtmedccfekfnmlaaMg18
import Derived.Test.YtmedccfekfnmlaaMg21
import Derived.Laws.CopyRow
import Derived.Test.YtmedccfekfnmlaaMg12
import Derived.Test.YtmedccfekfnmlaaMg14
import Derived.Test.YtmedccfekfnmlaaMg1

/-
  One hop less: the program's.
-/
namespace Go.Proofs.Ytmedccfekfnmlaa.memC
open Go.ChangeShapes Go.WideShapes Go.ChangeAt Go.RowKit
set_option linter.unusedVariables false
/-- some numbers copied into the midst of an own slice -/
theorem Own.copied {k : IntKind} {e : TypeId} {w : World} {base g n c : Nat} {xs : List Int} (h : Own k e w base (.slice (some ⟨g, 0, none⟩) n c) xs) (hn : 0 < n) (off m : Nat) (ys : List Int) (hm : ys.length = m) (ho : off + m ≤ n) :
    ∃ cur, w.heap[g]? = some (.cells cur e (0, 0)) ∧ n ≤ cur.size ∧ Own k e (w.setRow g (cur.toList.take off ++ ys.map (Value.int k) ++ cur.toList.drop (off + m)).toArray) base (.slice (some ⟨g, 0, none⟩) n c) (xs.take off ++ ys ++ xs.drop (off + m)) := by
  have hl := h.len
  subst hl
  unfold Own at h ⊢
  rcases h.2 with ⟨e2, h0⟩ | ⟨g', cap, cur, e2, hb, hh, h1, h2, h3, h4⟩
  · cases e2
  · cases e2
    rw [Nat.mul_one] at h3 h4
    have hl2 : (xs.take off ++ ys ++ xs.drop (off + m)).length = xs.length := by simp; omega
    have ec : cur.toList = xs.map (Value.int k) ++ cur.toList.drop xs.length := by
      have := List.take_append_drop xs.length cur.toList
      rw [← h4]; exact this.symm
    have en : cur.toList.take off ++ ys.map (Value.int k) ++ cur.toList.drop (off + m) = (xs.take off ++ ys ++ xs.drop (off + m)).map (Value.int k) ++ cur.toList.drop xs.length := by
      generalize cur.toList.drop xs.length = R at *
      rw [ec, List.take_append_of_le_length (by rw [List.length_map]; omega), List.drop_append_of_le_length (by rw [List.length_map]; omega)]
      simp [List.map_take, List.map_drop]
    refine ⟨cur, hh, by omega, by rw [Nat.mul_one, List.length_map], .inr ⟨g, c, _, by rw [hl2], hb, setRow_heap _ _ _ _ _ _ hh, by rw [hl2]; exact h1, h2, ?_, ?_⟩⟩
    · rw [en]
      simp only [List.size_toArray, List.length_append, List.length_map, hl2, List.length_drop, Array.length_toList]
      omega
    · rw [en, Nat.mul_one]
      rw [List.take_append_of_le_length (by rw [List.length_map]; exact Nat.le_refl _), List.take_of_length_le (by rw [List.length_map]; exact Nat.le_refl _)]
end Go.Proofs.Ytmedccfekfnmlaa.memC
namespace Go.Proofs.Ytmedccfekfnmlaa.pkC
open Go.ChangeShapes Go.WideShapes Go.ChangeAt Go.RowKit
open Go.Proofs.Ytmedccfekfnmlaa.memC Go.Proofs.Ytmedccfekfnmlaa.genC Go.Proofs.Ytmedccfekfnmlaa.butC Go.Proofs.Ytmedccfekfnmlaa.freeC Go.Proofs.Ytmedccfekfnmlaa.adC
set_option linter.unusedVariables false
/-- copy as an operation of a region that draws its order -/
theorem copy_J {P : Program} {Q : Exit → Act → World → Prop} {R : Value → World → Prop} {fr : Act} {o : Oper} {w : World} (d s : Tmp) (dT sT : TypeId) (ho : o.op = .call { callee := .builtin .copy, args := #[.tmp d, .tmp s], argTypes := #[dT, sT] })
    (v u : Value) (hd : fr.tmps[d]?.getD undef = v) (hs : fr.tmps[s]?.getD undef = u) {v' : Value} {w' : World} (hr : (Builtin.copy_ #[dT, sT] o.type #[v, u]).run P w = .ok v' w') (hR : R v' w') : o.wp P fr w (fun a' w' => ∃ v, a' = fr.put o.dst v ∧ R v w') Q := by
  have hd' := eval_tmp hd
  have hs' := eval_tmp hs
  unfold Oper.wp execOp
  simp only [ho, resolve, invoke, builtin, Sem.run_bind, Sem.run_pure, Result.andThen_ok, List.map_toArray, List.map_cons, List.map_nil, hd', hs', hr]
  exact ⟨_, rfl, hR⟩
/-- a literal of numbers, by its row -/
theorem row_nums (k : IntKind) {w : World} {g : Nat} {xs : List Int} {T : TypeId} {C : Array Value} (h : w.heap[g]? = some (.cells C T (0, 0))) (hC : C = (xs.map (Value.int k)).toArray) (n : Nat) (hn : xs.length = n) :
    Nums k w w.heap.size (some ⟨g, 0, none⟩) n xs := by
  subst hC
  refine ⟨hn, fun _ => ⟨_, 0, rfl, lt_of_row h, fun i hi => ?_⟩⟩
  have hi2 : i < xs.length := by omega
  rw [cell_of_row w g (0 + i) _ _ (0, 0) h]
  simp [List.getD_eq_getElem?_getD, hi2]
/-- b[f:] -/
theorem cut_tail (A : Option Addr) (n c f : Nat) (h1 : f ≤ n) (h2 : n ≤ c) (w : World) :
    (Instr.slice 26 (.slice A n c) (some (.int .i64 (f : Int))) none none).run Try.prog w = .ok (.slice (if c = f then A else A.map (·.add f)) (n - f) (c - f)) w := by
  have k1 : (f : Int) ≤ (n : Int) := by omega
  by_cases h : c = f
  · subst h
    rw [if_pos rfl]
    go_simp
  · rw [if_neg h]
    go_simp
theorem set_two {xs : List Int} (h : 12 ≤ xs.length) (a b : Int) : xs.take 10 ++ [a, b] ++ xs.drop 12 = (xs.set 10 a).set 11 b := by
  match xs, h with
  | x0 :: x1 :: x2 :: x3 :: x4 :: x5 :: x6 :: x7 :: x8 :: x9 :: x10 :: x11 :: r, _ => rfl
def hoR (base g n c : Nat) (X0 X1 : List Int) : Nat → (Nat → Value) → World → Prop
  | 0, _, w => Own .u8 5 w base (.slice (some ⟨g, 0, none⟩) n c) X0
  | 1, _, w => Own .u8 5 w base (.slice (some ⟨g, 0, none⟩) n c) X1
  | _, _, _ => True
theorem hoR.keep (base g n c : Nat) (X0 X1 : List Int) (k : Nat) (us us' : Nat → Value) (w w' : World) (hb : Below w.heap.size w w') (hR : hoR base g n c X0 X1 k us w) : hoR base g n c X0 X1 k us' w' := by
  unfold hoR at hR ⊢
  split at hR
  · exact hR.below hb
  · exact hR.below hb
  · trivial
def hoV (g n c n10 c10 : Nat) (ck : Int) : Nat → Value → World → Prop
  | 0, v, _ => v = .slice (some ⟨g, 0, none⟩) n c
  | 1, v, _ => v = .slice (some ⟨g, 10, none⟩) n10 c10
  | 2, v, _ => v = .int .u16 ck
  | 3, v, _ => v = .int .u64 ck
  | 4, v, w => ∃ q, v = .slice (some ⟨q, 0, none⟩) 1 1 ∧ q ≠ g ∧ w.heap[q]? = some (.cells #[.int .u64 ck] 44 (0, 0))
  | 5, v, w => ∃ A c, v = .slice A 2 c ∧ Own .u8 5 w (g + 1) (.slice A 2 c) [ck / 256, ck % 256]
  | _, _, _ => True
theorem hoV.keep (g n c n10 c10 : Nat) (ck : Int) (i : Nat) (v : Value) (w w' : World) (hd : Below w.heap.size w w' ∨ OnlyAt g w w') (h : hoV g n c n10 c10 ck i v w) : hoV g n c n10 c10 ck i v w' := by
  by_cases e4 : i = 4
  · subst e4
    obtain ⟨q, h1, h2, h3⟩ := h
    exact ⟨q, h1, h2, keep_row hd h2 h3⟩
  by_cases e5 : i = 5
  · subst e5
    obtain ⟨A, c', h1, h2⟩ := h
    refine ⟨A, c', h1, h2.keep fun k g1 g2 => ?_⟩
    rcases hd with hd | hd
    · exact hd.block k g2
    · exact hd.2 k (by omega)
  unfold hoV at h ⊢
  split at h <;> first | exact h | exact absurd rfl (by assumption)
def hoT : List (Option Nat) := [none, none, none, none, none, none, none, none, none, none, none, none, none, none, none, none, none, none, none, none, none, none, none, none, none, none, none, none, none, none, none, none, none, none, none, some 0, some 1, some 2, some 3, some 4, some 5, some 6, none]
set_option maxRecDepth 100000 in
set_option maxHeartbeats 4000000 in
theorem chop_any (A : Option Addr) (n c : Nat) (bs : List Int) (w : World) (hb : Nums .u8 w w.heap.size A n bs) (hy : ∀ x ∈ bs, Byte x) (hn : n ≤ 9000) (hnc : n ≤ c) (hcm : c ≤ 9223372036854775807) :
    Calls Try.prog 16 #[.slice A n c] w (HpR w bs) := by
  have hzv := zeroPkt
  have HN := Lib.hid (fun w' (h : Below w.heap.size w w') => (hb.below h).more h.size)
  have HY := Lib.hid hy
  have HL := Lib.hid hb.len
  have P0 := Lib.hid (cparse_any A n c bs w hb hy hn)
  have UPP := Lib.hid (fun A n c => (pkC (psP_ok hy) A n c).info)
  have SPP := Lib.hid (fun A n c => (pkC zPkt_ok none 0 0).size.trans (pkC (psP_ok hy) A n c).size.symm)
  have OPP := Lib.hid (fun A n c => pkt_one (psP bs) A n c)
  have HPP := Lib.hid (fun A n c => (pkC (psP_ok hy) A n c).hops)
  have HC := Lib.hid hnc
  have HM := Lib.hid hcm
  have H9 := Lib.hid hn
  obtain ⟨k, hk⟩ : ∃ k, k = psE bs := ⟨_, rfl⟩
  have EK := Lib.hid hk
  unfold PsR at P0
  rw [← hk] at P0
  generalize hZ : pktV zPkt none 0 0 = Z at *
  clear hb hy hn hnc hcm hk hZ
  go_enter Try.func16, Try.ntmps16
  go_upto_region 2 with (first
    | (go_at_call 15; (refine P0.out.mono ?_); rintro e v1 ⟨A1, n1, c1, rfl, N1, B1⟩
       have HB1 := Lib.hid B1
       have UP := Lib.hid (UPP.out A1 n1 c1)
       have SP := Lib.hid (SPP.out A1 n1 c1)
       have OP := Lib.hid (OPP.out A1 n1 c1)
       have HO := Lib.hid (HPP.out A1 n1 c1)
       generalize pktV (psP bs) A1 n1 c1 = PK at *
       have RN := Lib.hid (show (v1.alloc (.cells Z 28)).heap[v1.heap.size]? = some (.cells Z 28 (0, 0)) from heap_alloc_new v1 _)
       clear N1 B1)
    | (refine wpList_store_row rfl 28 (.tmp 4) (.tmp 11) rfl v1.heap.size _ rfl rfl _ _ RN.out UP.out SP.out OP.out ?_))
  rw [World.setRow_alloc_new]
  have R2 := Lib.hid (show (v1.alloc (.cells PK 28)).heap[v1.heap.size]? = some (.cells PK 28 (0, 0)) from heap_alloc_new v1 _)
  have HB2 := Lib.hid (HB1.out.trans ((alloc_below v1 (.cells PK 28)).mono HB1.out.size))
  have k35 : (v1.alloc (.cells PK 28)).cell? ⟨v1.heap.size, 35, none⟩ = some (.int .u8 (psP bs).hops) := PkC.cell R2.out HO.out
  clear RN UPP SPP OPP HPP P0 HB1 hzv
  generalize v1.alloc (.cells PK 28) = v2 at *
  by_cases hk0 : k = 0
  rotate_left
  · have q : (k == 0) = false := beq_eq_false_iff_ne.2 hk0
    have E1 : hpE bs = k := by unfold hpE; rw [← EK.out, if_pos hk0]
    have E2 : hpX bs = [] := by unfold hpX; rw [E1, if_neg hk0]
    have E1 := Lib.hid E1
    have E2 := Lib.hid E2
    clear hk0
    go_wp2_with fail
    go_ret2
    exact ⟨none, 0, 0, by rw [E1.out]; rfl, by rw [E2.out]; exact Nums.none_ 0, HB2.out⟩
  subst hk0
  have h20 := (psE_ok EK.out.symm).1
  have eh : (psP bs).hops = bs.getD 8 0 := by unfold psP; rw [if_pos EK.out.symm]; rfl
  rw [eh] at k35
  have hx := getD_bytes HY.out 8
  unfold Byte at hx
  obtain ⟨x, hxe⟩ : ∃ x, x = bs.getD 8 0 := ⟨_, rfl⟩
  rw [← hxe] at k35 hx
  have EX8 := Lib.hid hxe
  obtain ⟨hx0, hx1⟩ := hx
  have H20 := Lib.hid h20
  clear eh hxe h20
  by_cases hx2 : x ≤ 1
  · have E1 : hpE bs = 1 := by unfold hpE; rw [if_neg (fun h => h EK.out.symm), ← EX8.out, if_pos (by omega)]
    have E2 : hpX bs = [] := by unfold hpX; rw [E1]; rfl
    have E1 := Lib.hid E1
    have E2 := Lib.hid E2
    go_wp2_with fail
    go_ret2
    exact ⟨none, 0, 0, by rw [E1.out]; rfl, by rw [E2.out]; exact Nums.none_ 0, HB2.out⟩
  have d2 : decide (x ≤ 1) = false := decide_eq_false hx2
  go_upto_region 6 with fail
  clear d2 k35
  have CL := Lib.hid (octC.clone_any A n c bs v2 (HN.out v2 HB2.out) (by have := H9.out; omega))
  go_upto_region 7 with (first
    | (go_at_call 32; (refine CL.out.mono ?_); rintro e v3 ⟨A2, c2, he, O, g1, g2, N, B⟩
       rw [HL.out] at he O g1
       subst he
       have O3 := Lib.hid O
       have G1 := Lib.hid g1
       have G2 := Lib.hid (show c2 ≤ 9223372036854775807 by unfold maxLen at g2; omega)
       have HB3 := Lib.hid (HB2.out.trans (B.mono HB2.out.size))
       clear O g1 g2 N B))
  have hn20 : 20 ≤ n := by have := H20.out; have := HL.out; omega
  have LN := Lib.hid hn20
  obtain ⟨g, rfl, hg0, hg1, hcell, hfz⟩ := O3.out.row (by omega)
  have c8 := hcell 8 (by omega)
  have f8 := hfz 8
  rw [← EX8.out] at c8
  have BG := Lib.hid (show w.heap.size ≤ g from Nat.le_trans HB2.out.size hg0)
  have LG3 := Lib.hid hg1
  have sx : 0 ≤ x - 1 := by omega
  have sx2 : x - 1 ≤ 255 := by omega
  have hn8 : (8 : Int) < (n : Int) := by omega
  clear hcell hfz hg0 hg1 hn20 CL
  go_upto_region 8 with fail
  have O4 := Lib.hid ((O3.out.stored 8 (x - 1)).less (Nat.le_trans HB2.out.size (Nat.le_refl _)))
  have HB4 := Lib.hid (show Below w.heap.size w (v3.setCell ⟨g, 8, none⟩ (.int .u8 (x - 1))) from HB3.out.trans ((Below.refl _ _).setCell (p := ⟨g, 8, none⟩) BG.out _))
  have LG := Lib.hid (show g + 1 ≤ (v3.setCell ⟨g, 8, none⟩ (.int .u8 (x - 1))).heap.size by have h := LG3.out; simp [World.setCell]; omega)
  clear c8 f8 O3 HB3 R2 HB2 hn8 LG3
  generalize v3.setCell ⟨g, 8, none⟩ (.int .u8 (x - 1)) = Wr at *
  obtain ⟨X0, hX0⟩ : ∃ X, X = bs.set 8 (x - 1) := ⟨_, rfl⟩
  have hw8 : w2 X0 8 = w2 bs 8 - 256 := by
    have h20 := H20.out
    have e8 : (bs.set 8 (x - 1)).getD 8 0 = x - 1 := by rw [List.getD_eq_getElem?_getD, List.getElem?_set_self (by omega)]; rfl
    have e9 : (bs.set 8 (x - 1)).getD 9 0 = bs.getD 9 0 := by rw [List.getD_eq_getElem?_getD, List.getElem?_set_ne (by decide), List.getD_eq_getElem?_getD]
    rw [hX0]
    unfold w2
    rw [e8, show (8 : Nat) + 1 = 9 from rfl, e9, ← EX8.out]
    omega
  have hXy : ∀ y ∈ X0, Byte y := by
    intro y hyy
    rw [hX0] at hyy
    rcases List.mem_or_eq_of_mem_set hyy with h | h
    · exact HY.out y h
    · subst h; unfold Byte; omega
  rw [← hX0] at O4
  have b8 := w2_byte HY.out 8
  have b10 := w2_byte HY.out 10
  have bx8 := w2_byte hXy 8
  have NA := Lib.hid (number_any A n c 10 10 bs Wr (HN.out Wr HB4.out) HY.out rfl (by have := LN.out; omega) HC.out HM.out)
  have NB := Lib.hid (number_any A n c 8 8 bs Wr (HN.out Wr HB4.out) HY.out rfl (by have := LN.out; omega) HC.out HM.out)
  have NC := Lib.hid (number_any (some ⟨g, 0, none⟩) n c2 8 8 X0 Wr O4.out.nums hXy rfl (by have := LN.out; omega) G1.out G2.out)
  rw [hw8] at NC bx8
  have TT := Lib.hid (chkC.turn_any (w2 bs 10) (w2 bs 8) (w2 bs 8 - 256) Wr b10.1 b10.2 b8.1 b8.2 bx8.1 bx8.2)
  obtain ⟨ck, hck⟩ : ∃ ck, ck = chkC.trZ (w2 bs 10) (w2 bs 8) (w2 bs 8 - 256) := ⟨_, rfl⟩
  have kb : 0 ≤ ck ∧ ck ≤ 65535 := by rw [hck]; unfold chkC.trZ; have := chkM.fo_bd ((65535 - w2 bs 10) + (65535 - w2 bs 8) + (w2 bs 8 - 256)); omega
  rw [← hck] at TT
  have hpc : hpC bs = ck := by unfold hpC; exact hck.symm
  have E1 := Lib.hid (show hpE bs = 0 by unfold hpE; rw [if_neg (fun h => h EK.out.symm), ← EX8.out, if_neg (by omega)])
  have hX1 : X0.take 10 ++ [ck / 256, ck % 256] ++ X0.drop 12 = hpL bs := by
    rw [set_two (by rw [hX0, List.length_set]; have := H20.out; omega)]
    unfold hpL
    rw [hpc, hX0, EX8.out]
  have E2 := Lib.hid (show hpX bs = hpL bs by unfold hpX; rw [E1.out]; rfl)
  have EX := Lib.hid hX1
  generalize hpL bs = X1 at *
  generalize w2 bs 10 = a10 at *
  generalize w2 bs 8 - 256 = a8' at *
  generalize w2 bs 8 = a8 at *
  have WK := Lib.hid (show IntKind.u64.wrap ck = ck from IntWalk.u64_in _ (by omega))
  have NL := Lib.hid (show octC.putL [] 2 [ck] = [ck / 256, ck % 256] by unfold octC.putL; simp only [List.flatMap_cons, List.flatMap_nil, List.nil_append, List.append_nil]; exact numL2 kb.1 kb.2)
  clear hX0 hw8 hXy b8 b10 bx8 hck kb hpc hX1 hx0 hx1 hx2 sx sx2
  go_upto_region 9 with (first
    | (go_at_call 34; (with_reducible refine NA.out.mono ?_); rintro e w' ⟨rfl, rfl⟩)
    | (go_at_call 34; (with_reducible refine NB.out.mono ?_); rintro e w' ⟨rfl, rfl⟩)
    | (go_at_call 34; (with_reducible refine NC.out.mono ?_); rintro e w' ⟨rfl, rfl⟩)
    | (go_at_call 33; (refine TT.out.mono ?_); rintro e w' ⟨rfl, rfl⟩))
  have SC := Lib.hid (fun w' => (show (Instr.slice 26 (.slice (some ⟨g, 0, none⟩) n c2) (some (.int .i64 10)) none none).run Try.prog w' = .ok (.slice (some ⟨g, 10, none⟩) (n - 10) (c2 - 10)) w' by
    have h1 := LN.out
    have h2 := G1.out
    have h := cut_tail (some ⟨g, 0, none⟩) n c2 10 (by omega) h2 w'
    rw [if_neg (by omega)] at h
    simpa [memC.add_plain] using h))
  have N10 := Lib.hid (show 10 ≤ n - 10 by have := LN.out; omega)
  have HBW := Lib.hid HB4.out
  have HO := Lib.hid O4.out
  clear NA NB NC TT O4 HB4
  generalize n - 10 = n10 at *
  generalize c2 - 10 = c10 at *
  obtain ⟨base, hbase⟩ : ∃ B, B = w.heap.size := ⟨_, rfl⟩
  rw [← hbase] at BG HO
  have HBB := Lib.hid (show Below base w Wr by rw [hbase]; exact HBW.out)
  have EB := Lib.hid hbase
  clear hbase
  refine with_act fun a0 ha0 => ?_
  have hl : hoT.length = a0.tmps.size := by rw [ha0]; rfl
  have k6 : a0.tmps[6]?.getD undef = .slice (some ⟨g, 0, none⟩) n c2 := by rw [ha0]; rfl
  have k7 : a0.tmps[7]?.getD undef = .int .u16 ck := by rw [ha0]; rfl
  refine wp_region_chd (by kernel_rfl) hoT (by kernel_rfl) (by kernel_rfl) hl (fun i => undef) (by rw [ha0]; rfl) (g) (OnlyAt g) [6] (by kernel_rfl) (by decide) (by decide) (fun w' => Below base Wr w' ∧ g + 1 ≤ w'.heap.size) (hoV g n c2 n10 c10 ck) (hoR base g n c2 X0 X1) (Nat.le_of_lt LG.out) ⟨(Below.refl _ _).drew, LG.out⟩ HO.out (fun w1 w2 hb hd h => ⟨keep_below hd BG.out (Nat.le_trans BG.out (Nat.le_of_lt h.2)) h.1, by rcases hd with hd | hd; exact Nat.le_trans h.2 hd.size; exact Nat.le_trans h.2 hd.1.size⟩) (fun i v w w' _ hd h => hoV.keep _ _ _ _ _ _ i v w w' hd h) (fun k us us' w w' _ _ hb hR => hoR.keep _ _ _ _ _ _ k us us' w w' hb hR) ⟨?_, ?_, ?_, ?_, ?_, ?_, ?_, trivial⟩ ?_
  · refine stepD_val [] (by kernel_rfl) (by decide) (by decide) rfl fun us w' hB hG hV => ?_
    have o6 := (frame_old2 (us := us) (a := a0) (show (hoT[6]?).join = none from rfl)).trans k6
    generalize frame hoT a0 us = fr at *
    exact val_C (v := .slice (some ⟨g, 0, none⟩) n c2) (w' := w') (by go_simp) (Below.refl _ _) rfl
  · refine stepD_val [0] (by kernel_rfl) (by decide) (by decide) rfl fun us w' hB hG hV => ?_
    have e0 : us 0 = .slice (some ⟨g, 0, none⟩) n c2 := hV 0 (by simp)
    have v0 := (frame_at2 (us := us) hl (show (hoT[35]?).join = some 0 from rfl)).trans e0
    have hsc := SC.out w'
    generalize frame hoT a0 us = fr at *
    exact val_C (v := .slice (some ⟨g, 10, none⟩) n10 c10) (w' := w') (by go_simp) (Below.refl _ _) rfl
  · refine stepD_val [] (by kernel_rfl) (by decide) (by decide) rfl fun us w' hB hG hV => ?_
    have o7 := (frame_old2 (us := us) (a := a0) (show (hoT[7]?).join = none from rfl)).trans k7
    generalize frame hoT a0 us = fr at *
    exact val_C (v := .int .u16 ck) (w' := w') (by go_simp) (Below.refl _ _) rfl
  · refine stepD_val [2] (by kernel_rfl) (by decide) (by decide) rfl fun us w' hB hG hV => ?_
    have e2 : us 2 = .int .u16 ck := hV 2 (by simp)
    have v2 := (frame_at2 (us := us) hl (show (hoT[37]?).join = some 2 from rfl)).trans e2
    have hw := WK.out
    generalize frame hoT a0 us = fr at *
    exact val_C (v := .int .u64 ck) (w' := w') (by go_simp) (Below.refl _ _) rfl
  · refine stepD_val [3] (by kernel_rfl) (by decide) (by decide) rfl fun us w' hB hG hV => ?_
    have e3 : us 3 = .int .u64 ck := hV 3 (by simp)
    have v3 := (frame_at2 (us := us) hl (show (hoT[38]?).join = some 3 from rfl)).trans e3
    generalize frame hoT a0 us = fr at *
    exact val_C (v := .slice (some ⟨w'.heap.size, 0, none⟩) 1 1) (w' := w'.alloc (.cells #[.int .u64 ck] 44)) (by go_simp) (alloc_below _ _) ⟨_, rfl, (Nat.ne_of_gt hG.2), heap_alloc_new _ _⟩
  · refine stepD_val [4] (by kernel_rfl) (by decide) (by decide) rfl fun us w' hB hG hV => ?_
    obtain ⟨q4, e4, n4, r4⟩ := (show ∃ q, us 4 = .slice (some ⟨q, 0, none⟩) 1 1 ∧ q ≠ g ∧ w'.heap[q]? = some (.cells #[.int .u64 ck] 44 (0, 0)) from hV 4 (by simp))
    have v4 := (frame_at2 (us := us) hl (show (hoT[39]?).join = some 4 from rfl)).trans e4
    generalize frame hoT a0 us = fr at *
    exact call_C (f := 17) (args := #[.slice none 0 0, .int .i64 2, .slice (some ⟨q4, 0, none⟩) 1 1]) (by go_simp) ((kdC.put_key (bs := []) (ns := [ck]) 2 2 2 [ck / 256, ck % 256] rfl (by decide) ⟨Nums.none_ 0, (by simp), (by decide), (by decide)⟩ (row_nums .u64 r4 rfl 1 rfl) (by decide) (by decide) NL.out rfl).mono fun e w'' ⟨A', c', h1, h2, h3, h4⟩ => ⟨_, h1, h4, A', c', rfl, h2.less hG.2⟩)
  · refine stepD_chain 0 rfl (by decide) [1, 5] (by kernel_rfl) (by decide) rfl fun us w' hB hG hV hR => ?_
    have e1 : us 1 = .slice (some ⟨g, 10, none⟩) n10 c10 := hV 1 (by simp)
    have v1 := (frame_at2 (us := us) hl (show (hoT[36]?).join = some 1 from rfl)).trans e1
    obtain ⟨A5, d5, e5, P5⟩ := (show ∃ A c, us 5 = .slice A 2 c ∧ Own .u8 5 w' (g + 1) (.slice A 2 c) [ck / 256, ck % 256] from hV 5 (by simp))
    have v5 := (frame_at2 (us := us) hl (show (hoT[40]?).join = some 5 from rfl)).trans e5
    generalize frame hoT a0 us = fr at *
    obtain ⟨cur, hc1, hc2, hc3⟩ := (show Own .u8 5 w' base (.slice (some ⟨g, 0, none⟩) n c2) X0 from hR).copied (by have := LN.out; omega) 10 2 [ck / 256, ck % 256] rfl (by have := LN.out; omega)
    have NP := P5.nums
    obtain ⟨b5, o5, ea5, hb5, hc5⟩ := NP.at_ (by decide)
    subst ea5
    have hcr := run_copy_row (P := Try.prog) w' 26 26 3 5 g 10 n10 c10 ⟨b5, o5, none⟩ 2 d5 cur 5 ([ck / 256, ck % 256].map (Value.int .u8)) Try.underlying26 (by kernel_rfl) hc1 (by have := N10.out; show 2 = min 2 n10; omega) (NP.news rfl) (by have := LN.out; show 10 + 2 ≤ cur.size; omega) (by simp [Value.oneCell'])
    exact copy_J (R := fun v w'' => (OnlyAt g w' w'' ∧ Below g w' w'') ∧ hoR base g n c2 X0 X1 1 (upd us 6 v) w'') 36 40 26 26 rfl _ _ v1 v5 hcr ⟨⟨OnlyAt.setRow _ _ _, (OnlyAt.setRow _ _ _).1⟩, by rw [← EX.out]; exact hc3⟩
  · intro us w2 hB2 hG hV hR
    have HR := Lib.hid (show Own .u8 5 w2 base (.slice (some ⟨g, 0, none⟩) n c2) X1 from hR)
    have HG := Lib.hid hG.1
    subst ha0
    simp only [frame, hoT, fill]
    clear hV hR hG hl k6 k7
    go_wp2_with fail
    go_ret2
    exact ⟨_, n, c2, by rw [E1.out]; rfl, by rw [E2.out]; exact HR.out.nums, HBW.out.trans (by rw [← EB.out]; exact HG.out)⟩
end Go.Proofs.Ytmedccfekfnmlaa.pkC

/-
  A packet's bytes: the program's.
-/
namespace Go.Proofs.Ytmedccfekfnmlaa.pkC
open Go.ChangeShapes Go.WideShapes Go.ChangeAt Go.RowKit
open Go.Proofs.Ytmedccfekfnmlaa.memC Go.Proofs.Ytmedccfekfnmlaa.genC Go.Proofs.Ytmedccfekfnmlaa.butC Go.Proofs.Ytmedccfekfnmlaa.freeC Go.Proofs.Ytmedccfekfnmlaa.adC
set_option linter.unusedVariables false
theorem or_bit64 {f : Int} (h0 : 0 ≤ f) (i : Nat) (hi : i ≤ 20) (h1 : f < 2 ^ i) : bits .or .u64 f (2 ^ i) = f + 2 ^ i := by
  obtain ⟨n, rfl⟩ : ∃ n : Nat, f = n := ⟨f.toNat, by omega⟩
  have hp : (2 : Int) ^ i = ((2 ^ i : Nat) : Int) := by simp
  rw [hp] at h1 ⊢
  have hn : n < 2 ^ i := by omega
  have hlt : 2 ^ i ≤ 2 ^ 20 := Nat.pow_le_pow_right (by decide) hi
  have hlt2 : 2 ^ i ≤ 1048576 := by simpa using hlt
  rw [Go.u64_or n ((2 ^ i : Nat) : Int) (by omega) (by omega) (by omega) (by omega)]
  have e : ((n : Int).toNat ||| ((2 ^ i : Nat) : Int).toNat) = n + 2 ^ i := by
    have e1 : (n : Int).toNat = n := by omega
    have e2 : ((2 ^ i : Nat) : Int).toNat = 2 ^ i := by omega
    have h := Nat.shiftLeft_add_eq_or_of_lt hn 1
    rw [Nat.shiftLeft_eq, Nat.one_mul] at h
    rw [e1, e2, Nat.or_comm, ← h]
    omega
  rw [e]
  omega
set_option maxRecDepth 100000 in
set_option maxHeartbeats 1000000 in
theorem ccut_any (p : Pkt) (A : Option Addr) (n c : Nat) (w : World) (hp : p.Ok) (h0 : 0 ≤ p.off) (h1 : p.off ≤ 65515) (hw : p.whole = true → p.more = false) :
    Calls Try.prog 18 #[.agg (pktV p A n c)] w (Ret w (.int .u64 (flN p))) := by
  obtain ⟨W, hW⟩ : ∃ W, W = w.alloc (.cells (pktV p A n c) 28) := ⟨_, rfl⟩
  have R0 := Lib.hid (show W.heap[w.heap.size]? = some (.cells (pktV p A n c) 28 (0, 0)) by rw [hW]; exact heap_alloc_new w _)
  have HB := Lib.hid (show Below w.heap.size w W by rw [hW]; exact alloc_below _ _)
  have c0 := pkC hp A n c
  have k37 := PkC.cell R0.out c0.whole
  have k38 := PkC.cell R0.out c0.more
  have k39 := PkC.cell R0.out c0.off
  have hz : p.off.tdiv 8 = p.off / 8 := Int.tdiv_eq_ediv_of_nonneg h0
  have f0 : 0 ≤ p.off / 8 := by omega
  have f1 : p.off / 8 ≤ 8189 := by omega
  obtain ⟨F, hF⟩ : ∃ F, F = flN p := ⟨_, rfl⟩
  rw [← hF]
  have b1 := or_bit64 f0 14 (by decide) (by have : (2 : Int) ^ 14 = 16384 := rfl; omega)
  have b2 := or_bit64 f0 13 (by decide) (by have : (2 : Int) ^ 13 = 8192 := rfl; omega)
  rw [show (2 : Int) ^ 14 = 16384 from rfl] at b1
  rw [show (2 : Int) ^ 13 = 8192 from rfl] at b2
  have w0 : IntKind.u64.wrap (p.off / 8) = p.off / 8 := IntWalk.u64_in _ (by omega)
  have HW := Lib.hid hw
  unfold flN at hF
  clear c0 hp hw
  generalize pktV p A n c = CP at *
  generalize p.off = of at *
  generalize of / 8 = f at *
  generalize p.whole = wh at *
  generalize p.more = mo at *
  cases wh
  · cases mo
    · have e : F = f := by rw [hF]; simp
      clear hF b1 b2 HW
      subst e
      go_enter Try.func18, Try.ntmps18
      go_upto_region 1 with fail
      rw [← hW]
      clear hW
      go_wp2_with fail
      go_ret
      exact ⟨rfl, HB.out⟩
    · have e : F = f + 8192 := by rw [hF]; simp
      rw [← e] at b2
      clear hF b1 HW e
      go_enter Try.func18, Try.ntmps18
      go_upto_region 1 with fail
      rw [← hW]
      clear hW
      go_wp2_with fail
      go_ret
      exact ⟨rfl, HB.out⟩
  · cases mo
    · have e : F = f + 16384 := by rw [hF]; simp
      rw [← e] at b1
      clear hF b2 HW e
      go_enter Try.func18, Try.ntmps18
      go_upto_region 1 with fail
      rw [← hW]
      clear hW
      go_wp2_with fail
      go_ret
      exact ⟨rfl, HB.out⟩
    · have := HW.out rfl
      cases this
end Go.Proofs.Ytmedccfekfnmlaa.pkC

/-
  A packet's bytes: the program's Lay.
-/
namespace Go.Proofs.Ytmedccfekfnmlaa.pkC
open Go.ChangeShapes Go.WideShapes Go.ChangeAt Go.RowKit
open Go.Proofs.Ytmedccfekfnmlaa.memC Go.Proofs.Ytmedccfekfnmlaa.genC Go.Proofs.Ytmedccfekfnmlaa.butC Go.Proofs.Ytmedccfekfnmlaa.freeC Go.Proofs.Ytmedccfekfnmlaa.adC
set_option linter.unusedVariables false
/-- a literal of two slices of bytes, by its row -/
theorem parts_row2 {w : World} {q : Nat} {A A' : Option Addr} {n c n' c' : Nat} {bs bs' : List Int} {T : TypeId} (hr : w.heap[q]? = some (.cells #[.slice A n c, .slice A' n' c'] T (0, 0))) (h : chkC.PartAt w w.heap.size ⟨A, n, c, bs⟩) (h' : chkC.PartAt w w.heap.size ⟨A', n', c', bs'⟩) :
    chkC.Parts w w.heap.size (some ⟨q, 0, none⟩) [⟨A, n, c, bs⟩, ⟨A', n', c', bs'⟩] := by
  refine ⟨fun _ => ⟨_, 0, rfl, lt_of_row hr, fun i hi => ?_⟩, fun p hp => ?_⟩
  · rw [cell_of_row w q (0 + i) _ _ (0, 0) hr]
    simp only [List.length_cons, List.length_nil] at hi
    match i, hi with
    | 0, _ => rfl
    | 1, _ => rfl
  · rcases List.mem_cons.1 hp with rfl | hp
    · exact h
    · obtain rfl := List.mem_singleton.1 hp
      exact h'
theorem parts_row4 {w : World} {q : Nat} {A A' A2 A3 : Option Addr} {n c n' c' n2 c2 n3 c3 : Nat} {bs bs' bs2 bs3 : List Int} {T : TypeId} (hr : w.heap[q]? = some (.cells #[.slice A n c, .slice A' n' c', .slice A2 n2 c2, .slice A3 n3 c3] T (0, 0)))
    (h : chkC.PartAt w w.heap.size ⟨A, n, c, bs⟩) (h' : chkC.PartAt w w.heap.size ⟨A', n', c', bs'⟩) (h2 : chkC.PartAt w w.heap.size ⟨A2, n2, c2, bs2⟩) (h3 : chkC.PartAt w w.heap.size ⟨A3, n3, c3, bs3⟩) :
    chkC.Parts w w.heap.size (some ⟨q, 0, none⟩) [⟨A, n, c, bs⟩, ⟨A', n', c', bs'⟩, ⟨A2, n2, c2, bs2⟩, ⟨A3, n3, c3, bs3⟩] := by
  refine ⟨fun _ => ⟨_, 0, rfl, lt_of_row hr, fun i hi => ?_⟩, fun p hp => ?_⟩
  · rw [cell_of_row w q (0 + i) _ _ (0, 0) hr]
    simp only [List.length_cons, List.length_nil] at hi
    match i, hi with
    | 0, _ => rfl
    | 1, _ => rfl
    | 2, _ => rfl
    | 3, _ => rfl
  · rcases List.mem_cons.1 hp with rfl | hp
    · exact h
    · rcases List.mem_cons.1 hp with rfl | hp
      · exact h'
      · rcases List.mem_cons.1 hp with rfl | hp
        · exact h2
        · obtain rfl := List.mem_singleton.1 hp
          exact h3
theorem put_check (w : World) (ck : Int) (hT : octC.putL [] 2 [ck] = [ck / 256, ck % 256]) :
    Calls Try.prog 17 #[.slice none 0 0, .int .i64 2, .slice (some ⟨w.heap.size, 0, none⟩) 1 1] (w.alloc (.cells #[.int .u64 ck] 44)) (kdC.BytesRet (w.alloc (.cells #[.int .u64 ck] 44)) 2 [ck / 256, ck % 256]) :=
  kdC.put_key (bs := []) (ns := [ck]) 2 2 2 [ck / 256, ck % 256] rfl (by decide) ⟨Nums.none_ 0, (by simp), (by decide), (by decide)⟩ (row_nums .u64 (xs := [ck]) (T := 44) (C := #[.int .u64 ck]) (heap_alloc_new w _) rfl 1 rfl) (by decide) (by decide) hT rfl
/-- the sum of a header's parts, the check sum left out -/
theorem head_parts {p : Pkt} (h : p.Ok) (n : Nat) : chkM.wsum (octC.putL [69, 0] 2 [20 + (n : Int), p.id, flN p] ++ [p.hops, p.proto]) + chkM.wsum (p.a.take 4 ++ p.b.take 4) = chkM.wsum (headL p n 0) := by
  have e8 : (octC.putL [69, 0] 2 [20 + (n : Int), p.id, flN p]).length = 8 := by unfold octC.putL; rw [List.length_append, octC.flat_len]; rfl
  have e : headL p n 0 = (octC.putL [69, 0] 2 [20 + (n : Int), p.id, flN p] ++ [p.hops, p.proto]) ++ ([0, 0] ++ (p.a.take 4 ++ p.b.take 4)) := by
    unfold headL topL
    simp
  have a1 := chkM.wsum_append (octC.putL [69, 0] 2 [20 + (n : Int), p.id, flN p] ++ [p.hops, p.proto]) ([0, 0] ++ (p.a.take 4 ++ p.b.take 4)) (by simp only [List.length_append, e8, List.length_cons, List.length_nil])
  have a2 := chkM.wsum_append [0, 0] (p.a.take 4 ++ p.b.take 4) rfl
  rw [e, a1, a2]
  simp [chkM.wsum]
def l3V (g0 : Nat) (CP : Array Value) (A : Option Addr) (n c : Nat) (N id F : Int) (B : Nat) (T1 : List Int) : Nat → Value → World → Prop
  | 0, v, w => ∃ q, v = .slice (some ⟨q, 0, none⟩) 2 2 ∧ w.heap[q]? = some (.cells #[.int .u8 69, .int .u8 0] 5 (0, 0))
  | 1, v, _ => v = .pointer (some ⟨g0, 40, none⟩)
  | 2, v, _ => v = .slice A n c
  | 3, v, _ => v = .int .i64 n
  | 4, v, _ => v = .int .i64 N
  | 5, v, _ => v = .int .u64 N
  | 6, v, _ => v = .pointer (some ⟨g0, 36, none⟩)
  | 7, v, _ => v = .int .u32 id
  | 8, v, _ => v = .int .u64 id
  | 9, v, _ => v = .agg CP
  | 10, v, _ => v = .int .u64 F
  | 11, v, w => ∃ q, v = .slice (some ⟨q, 0, none⟩) 3 3 ∧ w.heap[q]? = some (.cells #[.int .u64 N, .int .u64 id, .int .u64 F] 44 (0, 0))
  | 12, v, w => ∃ A' c', v = .slice A' 8 c' ∧ Own .u8 5 w B (.slice A' 8 c') T1
  | 13, v, w => ∃ A' c', v = .slice A' 8 c' ∧ Own .u8 5 w B (.slice A' 8 c') T1
  | _, _, _ => True
theorem l3V.keep (g0 : Nat) (CP : Array Value) (A : Option Addr) (n c : Nat) (N id F : Int) (B : Nat) (T1 : List Int) (i : Nat) (v : Value) (w w' : World) (hb : Below w.heap.size w w') (h : l3V g0 CP A n c N id F B T1 i v w) : l3V g0 CP A n c N id F B T1 i v w' := by
  by_cases e0 : i = 0
  · subst e0
    obtain ⟨q, h1, h2⟩ := h
    exact ⟨q, h1, by rw [hb.block _ (lt_of_row h2)]; exact h2⟩
  by_cases e11 : i = 11
  · subst e11
    obtain ⟨q, h1, h2⟩ := h
    exact ⟨q, h1, by rw [hb.block _ (lt_of_row h2)]; exact h2⟩
  by_cases e12 : i = 12
  · subst e12
    obtain ⟨A', c', h1, h2⟩ := h
    exact ⟨A', c', h1, h2.below hb⟩
  by_cases e13 : i = 13
  · subst e13
    obtain ⟨A', c', h1, h2⟩ := h
    exact ⟨A', c', h1, h2.below hb⟩
  unfold l3V at h ⊢
  split at h <;> first | exact h | exact absurd rfl (by assumption)
def l3T : List (Option Nat) := [none, none, none, none, some 13, none, none, none, none, none, some 0, some 1, some 2, some 3, some 4, some 5, some 6, some 7, some 8, some 9, some 10, some 11, some 12, none, none, none, none, none, none, none, none, none, none, none, none, none, none, none, none, none, none, none, none, none, none, none, none, none, none, none, none, none]
def l5V (g0 : Nat) (LA LB : List Value) (a4 b4 ab : List Int) : Nat → Value → World → Prop
  | 0, v, _ => v = .pointer (some ⟨g0, 0, none⟩)
  | 1, v, _ => v = .agg LA.toArray
  | 2, v, w => ∃ A' c', v = .slice A' 4 c' ∧ chkC.PartAt w w.heap.size ⟨A', 4, c', a4⟩
  | 3, v, _ => v = .pointer (some ⟨g0, 17, none⟩)
  | 4, v, _ => v = .agg LB.toArray
  | 5, v, w => ∃ A' c', v = .slice A' 4 c' ∧ chkC.PartAt w w.heap.size ⟨A', 4, c', b4⟩
  | 6, v, w => ∃ q A' c' A'' c'', v = .slice (some ⟨q, 0, none⟩) 2 2 ∧ w.heap[q]? = some (.cells #[.slice A' 4 c', .slice A'' 4 c''] 26 (0, 0)) ∧ chkC.PartAt w w.heap.size ⟨A', 4, c', a4⟩ ∧ chkC.PartAt w w.heap.size ⟨A'', 4, c'', b4⟩
  | 7, v, w => ∃ A' c', v = .slice A' 8 c' ∧ chkC.PartAt w w.heap.size ⟨A', 8, c', ab⟩
  | 8, v, w => ∃ A' c', v = .slice A' 8 c' ∧ chkC.PartAt w w.heap.size ⟨A', 8, c', ab⟩
  | _, _, _ => True
theorem l5V.keep (g0 : Nat) (LA LB : List Value) (a4 b4 ab : List Int) (i : Nat) (v : Value) (w w' : World) (hb : Below w.heap.size w w') (h : l5V g0 LA LB a4 b4 ab i v w) : l5V g0 LA LB a4 b4 ab i v w' := by
  by_cases e2 : i = 2
  · subst e2
    obtain ⟨A', c', h1, h2⟩ := h
    exact ⟨A', c', h1, h2.below hb hb.size⟩
  by_cases e5 : i = 5
  · subst e5
    obtain ⟨A', c', h1, h2⟩ := h
    exact ⟨A', c', h1, h2.below hb hb.size⟩
  by_cases e6 : i = 6
  · subst e6
    obtain ⟨q, A', c', A'', c'', h1, h2, h3, h4⟩ := h
    exact ⟨q, A', c', A'', c'', h1, by rw [hb.block _ (lt_of_row h2)]; exact h2, h3.below hb hb.size, h4.below hb hb.size⟩
  by_cases e7 : i = 7
  · subst e7
    obtain ⟨A', c', h1, h2⟩ := h
    exact ⟨A', c', h1, h2.below hb hb.size⟩
  by_cases e8 : i = 8
  · subst e8
    obtain ⟨A', c', h1, h2⟩ := h
    exact ⟨A', c', h1, h2.below hb hb.size⟩
  unfold l5V at h ⊢
  split at h <;> first | exact h | exact absurd rfl (by assumption)
def l5T : List (Option Nat) := [none, none, none, none, none, some 8, none, none, none, none, none, none, none, none, none, none, none, none, none, none, none, none, none, none, none, none, none, none, none, none, some 0, some 1, some 2, some 3, some 4, some 5, some 6, some 7, none, none, none, none, none, none, none, none, none, none, none, none, none, none]
set_option maxRecDepth 100000 in
set_option maxHeartbeats 4000000 in
theorem clay_any (p : Pkt) (A : Option Addr) (n c : Nat) (xs : List Int) (w : World) (hp : p.Ok) (hx : Nums .u8 w w.heap.size A n xs) (hy : ∀ x ∈ xs, Byte x) (hn : n ≤ 9223372036854775807) (hf : mayB p n = true → n ≤ 9000) :
    Calls Try.prog 9 #[.agg (pktV p A n c)] w (OwnE w (layL p n xs) (layE p n)) := by
  obtain ⟨W, hW⟩ : ∃ W, W = w.alloc (.cells (pktV p A n c) 28) := ⟨_, rfl⟩
  have R0 := Lib.hid (show W.heap[w.heap.size]? = some (.cells (pktV p A n c) 28 (0, 0)) by rw [hW]; exact heap_alloc_new w _)
  have HB := Lib.hid (show Below w.heap.size w W by rw [hW]; exact alloc_below _ _)
  have c0 := pkC hp A n c
  have UI := Lib.hid c0.info
  have KR := Lib.hid (fun (w' : World) (h : Below W.heap.size W w') => (show w'.heap[w.heap.size]? = some (.cells (pktV p A n c) 28 (0, 0)) by rw [h.block _ (lt_of_row R0.out)]; exact R0.out))
  have MC := Lib.hid (fun w' => cmay_pkt p A n c w' hp hn)
  have HWW := Lib.hid (Below.refl W.heap.size W)
  by_cases hm : mayB p n = true
  · obtain ⟨i0, hi0, hz0, hz1, hz2⟩ := info_parts byte_inf
    have T1' := Lib.hid hi0; have T2 := Lib.hid hz0; have T3 := Lib.hid hz1; have T4 := Lib.hid hz2
    have hn9 := Lib.hid (hf hm)
    obtain ⟨m1, m2, _, _, m5, m6, m7, m8, m9, _, m11⟩ := mayB_parts hm
    obtain ⟨q0, q1⟩ := ckL_bd p n
    have hid := hp.id
    obtain ⟨fl0, fl1, _⟩ := flN_parts hm
    have K40 := Lib.hid (fun w' (h : Below W.heap.size W w') => PkC.cell (KR.out w' h) c0.load)
    have K36 := Lib.hid (fun w' (h : Below W.heap.size W w') => PkC.cell (KR.out w' h) c0.id)
    have K35 := Lib.hid (fun w' (h : Below W.heap.size W w') => PkC.cell (KR.out w' h) c0.hops)
    have K34 := Lib.hid (fun w' (h : Below W.heap.size W w') => PkC.cell (KR.out w' h) c0.proto)
    have K40' := Lib.hid (fun w' (h : Below W.heap.size W w') => PkC.cell (KR.out w' h) c0.load)
    have SA0 := Lib.hid (fun w' (h : Below W.heap.size W w') => PkC.part (KR.out w' h) c0.src)
    have SB0 := Lib.hid (fun w' (h : Below W.heap.size W w') => PkC.part (KR.out w' h) c0.dst)
    have IA := Lib.hid (adrC_info (s := p.s) hp.la)
    have IB := Lib.hid (adrC_info (s := p.t) hp.lb)
    have BA := Lib.hid (fun w' => cbytes_any p.s p.a w' hp.la)
    have BB := Lib.hid (fun w' => cbytes_any p.t p.b w' hp.lb)
    rw [← adrC_arr] at BA BB
    rw [m1, show adrL false p.a = p.a.take 4 from rfl] at BA
    rw [m2, show adrL false p.b = p.b.take 4 from rfl] at BB
    rw [m1] at SA0 IA
    rw [m2] at SB0 IB
    have CC := Lib.hid (fun w' => ccut_any p A n c w' hp m6 (by omega) (fun h => (m11 h).1))
    have ZA := Lib.hid (show (p.a.take 4).length = 4 by rw [List.length_take, hp.la]; rfl)
    have ZB := Lib.hid (show (p.b.take 4).length = 4 by rw [List.length_take, hp.lb]; rfl)
    have YA := Lib.hid (fun x (hx : x ∈ p.a.take 4) => hp.ya x (List.mem_of_mem_take hx))
    have YB := Lib.hid (fun x (hx : x ∈ p.b.take 4) => hp.yb x (List.mem_of_mem_take hx))
    have HS := Lib.hid (head_parts hp n)
    have hck : ckL p n = 65535 - chkM.fo (chkM.wsum (headL p n 0)) := rfl
    have hT := Lib.hid (show headL p n (ckL p n) = ((octC.putL [69, 0] 2 [20 + (n : Int), p.id, flN p] ++ [p.hops, p.proto]) ++ [ckL p n / 256, ckL p n % 256]) ++ (p.a.take 4 ++ p.b.take 4) by unfold headL topL; simp)
    have YT := Lib.hid (headL_byte hp n (ck := 0) (by decide) (by decide))
    have HX0 := Lib.hid (fun w' (h : Below W.heap.size W w') => (show Nums .u8 w' w'.heap.size A n xs from (hx.below (HB.out.trans (h.mono HB.out.size))).more (Nat.le_trans HB.out.size h.size)))
    have L8 := Lib.hid (show (octC.putL [69, 0] 2 [20 + (n : Int), p.id, flN p]).length = 8 by unfold octC.putL; rw [List.length_append, octC.flat_len]; rfl)
    have Y8 := Lib.hid (fun x (hx : x ∈ octC.putL [69, 0] 2 [20 + (n : Int), p.id, flN p] ++ [p.hops, p.proto]) => (show Byte x from YT.out x (by
      unfold headL topL
      rcases List.mem_append.1 hx with h | h
      · exact List.mem_append_left _ (List.mem_append_left _ (List.mem_append_left _ h))
      · refine List.mem_append_left _ (List.mem_append_left _ (List.mem_append_right _ ?_))
        simp only [List.mem_cons, List.not_mem_nil, or_false] at h ⊢
        rcases h with rfl | rfl
        · exact .inl rfl
        · exact .inr (.inl rfl))))
    have ev : layL p n xs = headL p n (ckL p n) ++ xs := by unfold layL; rw [if_pos hm]
    have ee : layE p n = 0 := by unfold layE; rw [if_pos hm]
    rw [hm] at MC
    rw [ev, ee, hT.out]
    rw [← HS.out] at hck
    have AN0 : (20 : Int) + (n : Int) = 20 + (n : Int) := rfl
    obtain ⟨N, hN⟩ : ∃ N : Int, N = 20 + (n : Int) := ⟨_, rfl⟩
    have AN := Lib.hid hN.symm
    have WN := Lib.hid (show IntKind.i64.wrap N = N from IntWalk.i64_in _ (by omega))
    have VN := Lib.hid (show IntKind.u64.wrap N = N from IntWalk.u64_in _ (by omega))
    have VI := Lib.hid (show IntKind.u64.wrap p.id = p.id from IntWalk.u64_in _ (by omega))
    obtain ⟨F, hF⟩ : ∃ F, F = flN p := ⟨_, rfl⟩
    rw [← hN, ← hF] at L8 Y8 hck ⊢
    rw [← hF] at CC
    obtain ⟨ck, hckk⟩ : ∃ ck, ck = ckL p n := ⟨_, rfl⟩
    rw [← hckk] at q0 q1 hck ⊢
    have VC := Lib.hid (show IntKind.u64.wrap ck = ck from IntWalk.u64_in _ (by omega))
    have NL := Lib.hid (show octC.putL [] 2 [ck] = [ck / 256, ck % 256] by unfold octC.putL; simp only [List.flatMap_cons, List.flatMap_nil, List.nil_append, List.append_nil]; exact numL2 q0 q1)
    have YC := Lib.hid (show ∀ x ∈ [ck / 256, ck % 256], Byte x by intro x hx; simp at hx; unfold Byte; omega)
    generalize p.id = id at *
    obtain ⟨T1, hT1⟩ : ∃ T, T = octC.putL [69, 0] 2 [N, id, F] := ⟨_, rfl⟩
    have ET := Lib.hid hT1.symm
    rw [← hT1] at L8 Y8 hck ⊢
    generalize p.hops = ho at *
    generalize p.proto = pr at *
    obtain ⟨H, hH⟩ : ∃ H, H = T1 ++ [ho, pr] := ⟨_, rfl⟩
    have EH := Lib.hid hH.symm
    rw [← hH] at Y8 hck ⊢
    have L10 := Lib.hid (show H.length = 10 by rw [hH, List.length_append, L8.out]; rfl)
    obtain ⟨ab, hab⟩ : ∃ ab, ab = p.a.take 4 ++ p.b.take 4 := ⟨_, rfl⟩
    have EAB := Lib.hid hab.symm
    rw [← hab] at hck ⊢
    have YAB := Lib.hid (show ∀ x ∈ ab, Byte x by intro x hx; rw [hab] at hx; rcases List.mem_append.1 hx with h | h; exact YA.out x h; exact YB.out x h)
    have HK := Lib.hid hck
    generalize p.a.take 4 = a4 at *
    generalize p.b.take 4 = b4 at *
    generalize adrC false p.a = LA at *
    generalize adrC false p.b = LB at *
    have HY := Lib.hid hy
    obtain ⟨X, hXX⟩ : ∃ X, X = H ++ [ck / 256, ck % 256] ++ ab ++ xs := ⟨_, rfl⟩
    have EXX := Lib.hid hXX.symm
    rw [← hXX]
    obtain ⟨NN, hNN⟩ : ∃ k, k = 20 + n := ⟨_, rfl⟩
    have ENN := Lib.hid hNN
    clear hXX hNN
    obtain ⟨CP, hCP⟩ : ∃ CP, CP = pktV p A n c := ⟨_, rfl⟩
    rw [← hCP] at R0 KR MC CC UI hW ⊢
    clear hm hx hN hF hckk hT1 hH hab hck c0 hi0 hz0 hz1 hz2 ev ee hp hCP hf hy m1 m2 m5 m6 m7 m8 m9 m11 hid fl0 fl1 q0 q1 HS hT YT AN0
    go_enter Try.func9, Try.ntmps9
    go_upto_region 1 with fail
    rw [← hW]
    clear hW
    go_upto_region 3 with (first
      | (refine wpList_load_rowG (by kernel_rfl) 28 (.tmp 1) rfl w.heap.size (by kernel_rfl) _ _ _ _ (KR.out _ HWW.out) Try.underlying28 rfl UI.out ?_)
      | (go_at_call 11; (refine (MC.out _).mono ?_); rintro e Wr ⟨rfl, BB⟩
         have HWr := Lib.hid BB
         clear BB))
    obtain ⟨B, hB⟩ : ∃ B, B = Wr.heap.size := ⟨_, rfl⟩
    have LB' := Lib.hid (Nat.le_of_eq hB)
    have GT := Lib.hid (fun w' (h : Gr Wr w') => (show Below W.heap.size W w' from HWr.out.trans (Below.mono h HWr.out.size)))
    have KR := Lib.hid (fun w' (h : Gr Wr w') => KR.out w' (GT.out w' h))
    have K40 := Lib.hid (fun w' (h : Gr Wr w') => K40.out w' (GT.out w' h))
    have K36 := Lib.hid (fun w' (h : Gr Wr w') => K36.out w' (GT.out w' h))
    clear MC HWW
    refine with_act fun a0 ha0 => ?_
    have hl : l3T.length = a0.tmps.size := by rw [ha0]; rfl
    have k1 : a0.tmps[1]?.getD undef = .pointer (some ⟨w.heap.size, 0, none⟩) := by rw [ha0]; rfl
    refine wp_region_vals (by kernel_rfl) l3T (by kernel_rfl) (by kernel_rfl) hl (fun i => undef) (by rw [ha0]; rfl) (Gr Wr) (l3V w.heap.size CP A n c N id F B T1) (gr_drew _) (l3V.keep _ _ _ _ _ _ _ _ _ _) ⟨?_, ?_, ?_, ?_, ?_, ?_, ?_, ?_, ?_, ?_, ?_, ?_, ?_, ?_, trivial⟩ ?_
    · refine step_plain [] (by kernel_rfl) rfl fun us w' hG hV => ?_
      generalize frame l3T a0 us = fr at *
      exact val_ok (v := .slice (some ⟨w'.heap.size, 0, none⟩) 2 2) (w' := w'.alloc (.cells #[.int .u8 69, .int .u8 0] 5)) (by go_simp) (hG.below (alloc_below _ _)) (alloc_below _ _) ⟨_, rfl, heap_alloc_new _ _⟩
    · refine step_plain [] (by kernel_rfl) rfl fun us w' hG hV => ?_
      have o1 := (frame_old2 (us := us) (a := a0) (show (l3T[1]?).join = none from rfl)).trans k1
      generalize frame l3T a0 us = fr at *
      exact val_ok (v := .pointer (some ⟨w.heap.size, 40, none⟩)) (w' := w') (by go_simp) hG (Below.refl _ _) rfl
    · refine step_plain [1] (by kernel_rfl) rfl fun us w' hG hV => ?_
      have e1 : us 1 = .pointer (some ⟨w.heap.size, 40, none⟩) := hV 1 (by simp)
      have v1 := (frame_at2 (us := us) hl (show (l3T[11]?).join = some 1 from rfl)).trans e1
      have hc := K40.out w' hG
      generalize frame l3T a0 us = fr at *
      exact val_ok (v := .slice A n c) (w' := w') (by go_simp) hG (Below.refl _ _) rfl
    · refine step_plain [2] (by kernel_rfl) rfl fun us w' hG hV => ?_
      have e2 : us 2 = .slice A n c := hV 2 (by simp)
      have v2 := (frame_at2 (us := us) hl (show (l3T[12]?).join = some 2 from rfl)).trans e2
      generalize frame l3T a0 us = fr at *
      exact val_ok (v := .int .i64 n) (w' := w') (by go_simp) hG (Below.refl _ _) rfl
    · refine step_plain [3] (by kernel_rfl) rfl fun us w' hG hV => ?_
      have e3 : us 3 = .int .i64 n := hV 3 (by simp)
      have v3 := (frame_at2 (us := us) hl (show (l3T[13]?).join = some 3 from rfl)).trans e3
      have ha := AN.out
      have hw := WN.out
      generalize frame l3T a0 us = fr at *
      exact val_ok (v := .int .i64 N) (w' := w') (by go_simp) hG (Below.refl _ _) rfl
    · refine step_plain [4] (by kernel_rfl) rfl fun us w' hG hV => ?_
      have e4 : us 4 = .int .i64 N := hV 4 (by simp)
      have v4 := (frame_at2 (us := us) hl (show (l3T[14]?).join = some 4 from rfl)).trans e4
      have hw := VN.out
      generalize frame l3T a0 us = fr at *
      exact val_ok (v := .int .u64 N) (w' := w') (by go_simp) hG (Below.refl _ _) rfl
    · refine step_plain [] (by kernel_rfl) rfl fun us w' hG hV => ?_
      have o1 := (frame_old2 (us := us) (a := a0) (show (l3T[1]?).join = none from rfl)).trans k1
      generalize frame l3T a0 us = fr at *
      exact val_ok (v := .pointer (some ⟨w.heap.size, 36, none⟩)) (w' := w') (by go_simp) hG (Below.refl _ _) rfl
    · refine step_plain [6] (by kernel_rfl) rfl fun us w' hG hV => ?_
      have e6 : us 6 = .pointer (some ⟨w.heap.size, 36, none⟩) := hV 6 (by simp)
      have v6 := (frame_at2 (us := us) hl (show (l3T[16]?).join = some 6 from rfl)).trans e6
      have hc := K36.out w' hG
      generalize frame l3T a0 us = fr at *
      exact val_ok (v := .int .u32 id) (w' := w') (by go_simp) hG (Below.refl _ _) rfl
    · refine step_plain [7] (by kernel_rfl) rfl fun us w' hG hV => ?_
      have e7 : us 7 = .int .u32 id := hV 7 (by simp)
      have v7 := (frame_at2 (us := us) hl (show (l3T[17]?).join = some 7 from rfl)).trans e7
      have hw := VI.out
      generalize frame l3T a0 us = fr at *
      exact val_ok (v := .int .u64 id) (w' := w') (by go_simp) hG (Below.refl _ _) rfl
    · refine step_plain [] (by kernel_rfl) rfl fun us w' hG hV => ?_
      have o1 := (frame_old2 (us := us) (a := a0) (show (l3T[1]?).join = none from rfl)).trans k1
      have hg1 := (KR.out w' hG)
      generalize frame l3T a0 us = fr at *
      exact load_ok 28 1 rfl (w.heap.size) o1 _ _ (0, 0) _ hg1 Try.underlying28 rfl UI.out hG rfl
    · refine step_plain [9] (by kernel_rfl) rfl fun us w' hG hV => ?_
      have e9 : us 9 = .agg CP := hV 9 (by simp)
      have v9 := (frame_at2 (us := us) hl (show (l3T[19]?).join = some 9 from rfl)).trans e9
      generalize frame l3T a0 us = fr at *
      exact call_ok (f := 18) (args := #[.agg CP]) (by go_simp) ((CC.out w').mono fun e w'' h => ⟨_, h.1, hG.below h.2, h.2, rfl⟩)
    · refine step_plain [5, 8, 10] (by kernel_rfl) rfl fun us w' hG hV => ?_
      have e5 : us 5 = .int .u64 N := hV 5 (by simp)
      have v5 := (frame_at2 (us := us) hl (show (l3T[15]?).join = some 5 from rfl)).trans e5
      have e8 : us 8 = .int .u64 id := hV 8 (by simp)
      have v8 := (frame_at2 (us := us) hl (show (l3T[18]?).join = some 8 from rfl)).trans e8
      have e10 : us 10 = .int .u64 F := hV 10 (by simp)
      have v10 := (frame_at2 (us := us) hl (show (l3T[20]?).join = some 10 from rfl)).trans e10
      generalize frame l3T a0 us = fr at *
      exact val_ok (v := .slice (some ⟨w'.heap.size, 0, none⟩) 3 3) (w' := w'.alloc (.cells #[.int .u64 N, .int .u64 id, .int .u64 F] 44)) (by go_simp) (hG.below (alloc_below _ _)) (alloc_below _ _) ⟨_, rfl, heap_alloc_new _ _⟩
    · refine step_plain [0, 11] (by kernel_rfl) rfl fun us w' hG hV => ?_
      obtain ⟨q0, e0, r0⟩ := (show ∃ q, us 0 = .slice (some ⟨q, 0, none⟩) 2 2 ∧ w'.heap[q]? = some (.cells #[.int .u8 69, .int .u8 0] 5 (0, 0)) from hV 0 (by simp))
      have v0 := (frame_at2 (us := us) hl (show (l3T[10]?).join = some 0 from rfl)).trans e0
      obtain ⟨q11, e11, r11⟩ := (show ∃ q, us 11 = .slice (some ⟨q, 0, none⟩) 3 3 ∧ w'.heap[q]? = some (.cells #[.int .u64 N, .int .u64 id, .int .u64 F] 44 (0, 0)) from hV 11 (by simp))
      have v11 := (frame_at2 (us := us) hl (show (l3T[21]?).join = some 11 from rfl)).trans e11
      generalize frame l3T a0 us = fr at *
      exact call_ok (f := 17) (args := #[.slice (some ⟨q0, 0, none⟩) 2 2, .int .i64 2, .slice (some ⟨q11, 0, none⟩) 3 3]) (by go_simp) ((kdC.put_key (bs := [69, 0]) (ns := [N, id, F]) 2 2 8 T1 rfl (by decide) ⟨row_nums .u8 r0 rfl 2 rfl, (by unfold Byte; simp), (by decide), (by decide)⟩ (row_nums .u64 r11 rfl 3 rfl) (by decide) (by decide) ET.out L8.out).mono fun e w'' ⟨A', c', h1, h2, h3, h4⟩ => ⟨_, h1, hG.below h4, h4, A', c', rfl, h2.less (Nat.le_trans LB'.out (Below.size hG))⟩)
    · refine step_plain [12] (by kernel_rfl) rfl fun us w' hG hV => ?_
      obtain ⟨A12, c12, e12, P12⟩ := (show ∃ A' c', us 12 = .slice A' 8 c' ∧ Own .u8 5 w' B (.slice A' 8 c') T1 from hV 12 (by simp))
      have v12 := (frame_at2 (us := us) hl (show (l3T[22]?).join = some 12 from rfl)).trans e12
      generalize frame l3T a0 us = fr at *
      exact val_ok (v := .slice A12 8 c12) (w' := w') (by go_simp) hG (Below.refl _ _) ⟨A12, c12, rfl, P12⟩
    · intro us w3 hG hV
      obtain ⟨A4, c4, e13, O4⟩ := (show ∃ A' c', us 13 = .slice A' 8 c' ∧ Own .u8 5 w3 B (.slice A' 8 c') T1 from hV 13 (by decide))
      subst ha0
      simp only [frame, l3T, fill]
      rw [e13]
      have HO := Lib.hid O4
      have HG3 := Lib.hid hG
      clear hV hl hG O4 k1 e13
      have KW3 := Lib.hid (GT.out w3 HG3.out)
      have k35 := K35.out w3 KW3.out
      have k34 := K34.out w3 KW3.out
      have n2 := Lib.hid (lit_nums .u8 w3 [ho, pr] 5 _ rfl 2 rfl)
      have O3 := Lib.hid (HO.out.alloc (.cells #[.int .u8 ho, .int .u8 pr] 5))
      have S3 := Lib.hid (show B ≤ (w3.alloc (.cells #[.int .u8 ho, .int .u8 pr] 5)).heap.size by rw [alloc_size]; have := LB'.out; have := Below.size HG3.out; omega)
      have NB3 := Lib.hid (alloc_below w3 (.cells #[.int .u8 ho, .int .u8 pr] 5))
      go_upto_region 5 with (at_builtin
                             (refine wpList_app _ rfl (.tmp 23) (.tmp 28) _ rfl 5 i0 _ 1 Try.underlying26 T1'.out T2.out T3.out T4.out rfl B _ T1 rfl O3.out (w3.heap.size + 1) _ 2 2 [ho, pr] rfl n2.out (by rw [L8.out]; unfold maxLen; omega) (by rw [L8.out]; omega) S3.out ?_)
                             intro v4 w4 O hg
                             obtain ⟨AH, cH, ev, g1, g2, NH⟩ := O.form
                             rw [EH.out, L10.out] at ev g1 NH
                             subst ev
                             have HNH := Lib.hid NH
                             have B34 := Lib.hid (show Below B w3 w4 from Below.grown (NB3.out.mono (by have := LB'.out; have := Below.size HG3.out; omega)) hg S3.out fun q hq => (O3.out.blk q hq).1)
                             clear O hg g1 g2 NH)
      clear n2 O3 S3 NB3 k35 k34 HO KR K40 K36 UI CC
      have KW4 := Lib.hid (KW3.out.trans (B34.out.mono (by have := LB'.out; have := HWr.out.size; omega)))
      have SA := Lib.hid (fun w' (h : Gr w4 w') => SA0.out w' (KW4.out.trans (Below.mono h KW4.out.size)))
      have SB := Lib.hid (fun w' (h : Gr w4 w') => SB0.out w' (KW4.out.trans (Below.mono h KW4.out.size)))
      clear SA0 SB0 GT KW3 HG3 B34 LB' HWr
      refine with_act fun a0 ha0 => ?_
      have hl : l5T.length = a0.tmps.size := by rw [ha0]; rfl
      have k1 : a0.tmps[1]?.getD undef = .pointer (some ⟨w.heap.size, 0, none⟩) := by rw [ha0]; rfl
      refine wp_region_vals (by kernel_rfl) l5T (by kernel_rfl) (by kernel_rfl) hl (fun i => undef) (by rw [ha0]; rfl) (Gr w4) (l5V w.heap.size LA LB a4 b4 ab) (gr_drew _) (l5V.keep _ _ _ _ _ _) ⟨?_, ?_, ?_, ?_, ?_, ?_, ?_, ?_, ?_, trivial⟩ ?_
      · refine step_plain [] (by kernel_rfl) rfl fun us w' hG hV => ?_
        have o1 := (frame_old2 (us := us) (a := a0) (show (l5T[1]?).join = none from rfl)).trans k1
        generalize frame l5T a0 us = fr at *
        exact val_ok (v := .pointer (some ⟨w.heap.size, 0, none⟩)) (w' := w') (by go_simp) hG (Below.refl _ _) rfl
      · refine step_plain [0] (by kernel_rfl) rfl fun us w' hG hV => ?_
        have e0 : us 0 = .pointer (some ⟨w.heap.size, 0, none⟩) := hV 0 (by simp)
        have v0 := (frame_at2 (us := us) hl (show (l5T[30]?).join = some 0 from rfl)).trans e0
        have hg1 := SA.out w' hG
        generalize frame l5T a0 us = fr at *
        exact val_ok (v := .agg LA.toArray) (w' := w') (loadp_run (s := 30) rfl v0 LA _ hg1 Try.underlying24 rfl IA.out) hG (Below.refl _ _) rfl
      · refine step_plain [1] (by kernel_rfl) rfl fun us w' hG hV => ?_
        have e1 : us 1 = .agg LA.toArray := hV 1 (by simp)
        have v1 := (frame_at2 (us := us) hl (show (l5T[31]?).join = some 1 from rfl)).trans e1
        generalize frame l5T a0 us = fr at *
        exact call_ok (f := 20) (args := #[.agg LA.toArray]) (by go_simp) ((BA.out w').mono fun e w'' ⟨A', n', c', h1, h2, h3, h4, h5, h6⟩ => by
          obtain rfl : 4 = n' := ZA.out.symm.trans h2
          exact ⟨_, h1, hG.below h6, h6, A', c', rfl, h5.nums, (show 4 ≤ 10000 by decide), YA.out⟩)
      · refine step_plain [] (by kernel_rfl) rfl fun us w' hG hV => ?_
        have o1 := (frame_old2 (us := us) (a := a0) (show (l5T[1]?).join = none from rfl)).trans k1
        generalize frame l5T a0 us = fr at *
        exact val_ok (v := .pointer (some ⟨w.heap.size, 17, none⟩)) (w' := w') (by go_simp) hG (Below.refl _ _) rfl
      · refine step_plain [3] (by kernel_rfl) rfl fun us w' hG hV => ?_
        have e3 : us 3 = .pointer (some ⟨w.heap.size, 17, none⟩) := hV 3 (by simp)
        have v3 := (frame_at2 (us := us) hl (show (l5T[33]?).join = some 3 from rfl)).trans e3
        have hg1 := SB.out w' hG
        generalize frame l5T a0 us = fr at *
        exact val_ok (v := .agg LB.toArray) (w' := w') (loadp_run (s := 33) rfl v3 LB _ hg1 Try.underlying24 rfl IB.out) hG (Below.refl _ _) rfl
      · refine step_plain [4] (by kernel_rfl) rfl fun us w' hG hV => ?_
        have e4 : us 4 = .agg LB.toArray := hV 4 (by simp)
        have v4 := (frame_at2 (us := us) hl (show (l5T[34]?).join = some 4 from rfl)).trans e4
        generalize frame l5T a0 us = fr at *
        exact call_ok (f := 20) (args := #[.agg LB.toArray]) (by go_simp) ((BB.out w').mono fun e w'' ⟨A', n', c', h1, h2, h3, h4, h5, h6⟩ => by
          obtain rfl : 4 = n' := ZB.out.symm.trans h2
          exact ⟨_, h1, hG.below h6, h6, A', c', rfl, h5.nums, (show 4 ≤ 10000 by decide), YB.out⟩)
      · refine step_plain [2, 5] (by kernel_rfl) rfl fun us w' hG hV => ?_
        obtain ⟨A2, c2, e2, P2⟩ := (show ∃ A' c', us 2 = .slice A' 4 c' ∧ chkC.PartAt w' w'.heap.size ⟨A', 4, c', a4⟩ from hV 2 (by simp))
        have v2 := (frame_at2 (us := us) hl (show (l5T[32]?).join = some 2 from rfl)).trans e2
        obtain ⟨A5, c5, e5, P5⟩ := (show ∃ A' c', us 5 = .slice A' 4 c' ∧ chkC.PartAt w' w'.heap.size ⟨A', 4, c', b4⟩ from hV 5 (by simp))
        have v5 := (frame_at2 (us := us) hl (show (l5T[35]?).join = some 5 from rfl)).trans e5
        generalize frame l5T a0 us = fr at *
        exact val_ok (v := .slice (some ⟨w'.heap.size, 0, none⟩) 2 2) (w' := w'.alloc (.cells #[.slice A2 4 c2, .slice A5 4 c5] 26)) (by go_simp) (hG.below (alloc_below _ _)) (alloc_below _ _) ⟨_, A2, c2, A5, c5, rfl, heap_alloc_new _ _, P2.below (alloc_below _ _) (alloc_below _ _).size, P5.below (alloc_below _ _) (alloc_below _ _).size⟩
      · refine step_plain [6] (by kernel_rfl) rfl fun us w' hG hV => ?_
        obtain ⟨q6, A6, c6, B6, d6, e6, r6, P6, Q6⟩ := (show ∃ q A' c' A'' c'', us 6 = .slice (some ⟨q, 0, none⟩) 2 2 ∧ w'.heap[q]? = some (.cells #[.slice A' 4 c', .slice A'' 4 c''] 26 (0, 0)) ∧ chkC.PartAt w' w'.heap.size ⟨A', 4, c', a4⟩ ∧ chkC.PartAt w' w'.heap.size ⟨A'', 4, c'', b4⟩ from hV 6 (by simp))
        have v6 := (frame_at2 (us := us) hl (show (l5T[36]?).join = some 6 from rfl)).trans e6
        have CC := chkC.concat_any (some ⟨q6, 0, none⟩) 2 2 8 _ w' (parts_row2 r6 P6 Q6) (by decide) rfl rfl (by decide) (by decide)
        have hcat : chkC.catL [⟨A6, 4, c6, a4⟩, ⟨B6, 4, d6, b4⟩] = ab := by rw [← EAB.out]; simp [chkC.catL]
        rw [hcat] at CC
        generalize frame l5T a0 us = fr at *
        exact call_ok (f := 19) (args := #[.slice (some ⟨q6, 0, none⟩) 2 2]) (by go_simp) (CC.mono fun e w'' ⟨A', c', h1, h2, h3, h4, h5⟩ => ⟨_, h1, hG.below h5, h5, A', c', rfl, h4.nums, (show 8 ≤ 10000 by decide), YAB.out⟩)
      · refine step_plain [7] (by kernel_rfl) rfl fun us w' hG hV => ?_
        obtain ⟨A7, c7, e7, P7⟩ := (show ∃ A' c', us 7 = .slice A' 8 c' ∧ chkC.PartAt w' w'.heap.size ⟨A', 8, c', ab⟩ from hV 7 (by simp))
        have v7 := (frame_at2 (us := us) hl (show (l5T[37]?).join = some 7 from rfl)).trans e7
        generalize frame l5T a0 us = fr at *
        exact val_ok (v := .slice A7 8 c7) (w' := w') (by go_simp) hG (Below.refl _ _) ⟨A7, c7, rfl, P7⟩
      · intro us w5 hG hV
        obtain ⟨AB, cB, e8, PB⟩ := (show ∃ A' c', us 8 = .slice A' 8 c' ∧ chkC.PartAt w5 w5.heap.size ⟨A', 8, c', ab⟩ from hV 8 (by decide))
        subst ha0
        simp only [frame, l5T, fill]
        rw [e8]
        have HPB := Lib.hid PB
        have HG5 := Lib.hid hG
        clear hV hl hG PB k1 e8
        have KW5 := Lib.hid (KW4.out.trans (Below.mono HG5.out KW4.out.size))
        have P1 := Lib.hid (show chkC.PartAt w5 w5.heap.size ⟨AH, 10, cH, H⟩ from ⟨(HNH.out.below HG5.out).more (Below.size HG5.out), (show 10 ≤ 10000 by decide), Y8.out⟩)
        have CK := Lib.hid (chkC.check2_on (f := ck) (Below.refl _ _) P1.out HPB.out HK.out.symm)
        have K40 := Lib.hid (fun w' (h : Below w5.heap.size w5 w') => K40'.out w' (KW5.out.trans (h.mono KW5.out.size)))
        clear HNH HG5 KW4 SA SB BA BB IA IB ZA ZB YA YB
        have hwc := VC.out
        go_upto_region 7 with (first
          | (go_at_call 21; (with_reducible refine CK.out.mono ?_); rintro e w6 ⟨rfl, B6⟩
             have H6 := Lib.hid B6
             have PU := Lib.hid (put_check w6 ck NL.out)
             clear B6)
          | (go_at_call 17; (refine PU.out.mono ?_); rintro e w7 ⟨A7, c7, rfl, O7, K7, B7⟩
             have HO7 := Lib.hid O7
             have HB7 := Lib.hid B7
             clear O7 K7 B7))
        have W57 := Lib.hid (show Below w5.heap.size w5 w7 from (H6.out.trans ((alloc_below w6 (.cells #[.int .u64 ck] 44)).mono H6.out.size)).trans (HB7.out.mono (Nat.le_trans H6.out.size (alloc_below _ _).size)))
        have PC := Lib.hid (show chkC.PartAt w7 w7.heap.size ⟨A7, 2, c7, [ck / 256, ck % 256]⟩ from ⟨HO7.out.nums, (show 2 ≤ 10000 by decide), YC.out⟩)
        have PA := Lib.hid (P1.out.below W57.out W57.out.size)
        have PB := Lib.hid (HPB.out.below W57.out W57.out.size)
        have KW7 := Lib.hid (KW5.out.trans (W57.out.mono KW5.out.size))
        have PX := Lib.hid (show chkC.PartAt w7 w7.heap.size ⟨A, n, c, xs⟩ from ⟨HX0.out w7 KW7.out, (show n ≤ 10000 by have := hn9.out; omega), HY.out⟩)
        have k40 := K40.out w7 W57.out
        have AB7 := Lib.hid (alloc_below w7 (.cells #[.slice AH 10 cH, .slice A7 2 c7, .slice AB 8 cB, .slice A n c] 26))
        have CT := Lib.hid (chkC.concat_any (some ⟨w7.heap.size, 0, none⟩) 4 4 NN _ (w7.alloc (.cells #[.slice AH 10 cH, .slice A7 2 c7, .slice AB 8 cB, .slice A n c] 26)) (parts_row4 (heap_alloc_new w7 _) (PA.out.below AB7.out AB7.out.size) (PC.out.below AB7.out AB7.out.size) (PB.out.below AB7.out AB7.out.size) (PX.out.below AB7.out AB7.out.size)) (by decide) rfl (by have := ENN.out; simp only [chkC.nsum]; omega) (by have := ENN.out; omega) (by have := ENN.out; have := hn9.out; omega))
        have hcat : chkC.catL [⟨AH, 10, cH, H⟩, ⟨A7, 2, c7, [ck / 256, ck % 256]⟩, ⟨AB, 8, cB, ab⟩, ⟨A, n, c, xs⟩] = X := by rw [← EXX.out]; simp [chkC.catL]
        rw [hcat] at CT
        clear hcat PA PB PC PX P1 HPB CK W57 KW5 K40
        go_wp2_with (first
          | (go_at_call 19; (refine CT.out.mono ?_); rintro e w8 ⟨A8, c8, rfl, h1, h2, O8, B8⟩
             have HO8 := Lib.hid O8
             have HB8 := Lib.hid B8
             clear h1 h2 O8 B8))
        go_ret2
        have s1 := KW7.out.size
        have s2 := AB7.out.size
        have s3 := HB.out.size
        exact ⟨A8, NN, c8, rfl, HO8.out.less (by omega), ((HB.out.trans (KW7.out.mono s3)).trans (AB7.out.mono (by omega))).trans (HB8.out.mono (by omega))⟩
  · have hm' : mayB p n = false := by cases h : mayB p n <;> simp_all
    have ev : layL p n xs = [] := by unfold layL; rw [hm']; rfl
    have ee : layE p n = 1 := by unfold layE; rw [hm']; rfl
    rw [ev, ee]
    rw [hm'] at MC
    generalize pktV p A n c = CP at *
    clear hm hm' ev ee c0 hx hp hf
    go_enter Try.func9, Try.ntmps9
    go_upto_region 1 with fail
    rw [← hW]
    clear hW
    go_wp2_with (first
      | (refine wpList_load_rowG (by kernel_rfl) 28 (.tmp 1) rfl w.heap.size (by kernel_rfl) _ _ _ _ (KR.out _ HWW.out) Try.underlying28 rfl UI.out ?_)
      | (go_at_call 11; (refine (MC.out _).mono ?_); rintro e w2 ⟨rfl, BB⟩
         have HW2 := Lib.hid BB
         clear BB))
    go_ret2
    exact ⟨none, 0, 0, rfl, Own.nil _ _, HB.out.trans (HW2.out.mono HB.out.size)⟩
end Go.Proofs.Ytmedccfekfnmlaa.pkC
