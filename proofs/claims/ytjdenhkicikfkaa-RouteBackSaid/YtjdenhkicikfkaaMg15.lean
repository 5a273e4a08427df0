/-
  1 texts of a proof, joined.
-/
import Derived.Test.YtjdenhkicikfkaaMg14
import Derived.Test.YtjdenhkicikfkaaMg3

/-
  The walk of RouteBack.
-/
namespace Go.Proofs.Ytjdenhkicikfkaa.rtC
open Go.ChangeShapes Go.WideShapes Go.ChangeAt Go.RowKit
open Go.Proofs.Ytjdenhkicikfkaa.memC Go.Proofs.Ytjdenhkicikfkaa.genC Go.Proofs.Ytjdenhkicikfkaa.butC Go.Proofs.Ytjdenhkicikfkaa.freeC Go.Proofs.Ytjdenhkicikfkaa.adC
set_option linter.unusedVariables false
set_option linter.constructorNameAsVariable false
theorem But.fs {k : Nat} {w w' : World} {S : Nat → Prop} (h : But k w w') (hk : S k) : Fs S w w' := ⟨h.os, h.tape, h.output, h.size, fun j hj hn => h.block j hj fun e => hn (e ▸ hk)⟩
theorem But.to_below {k B : Nat} {w w' : World} (h : But k w w') (hk : B ≤ k) (hB : B ≤ w.heap.size) : Below B w w' := ⟨h.os, h.tape, h.output, h.size, fun j hj => h.block j (by omega) (by omega)⟩
theorem loadp_runR {P : Program} {fr : Act} {o : Oper} {w : World} {s : Tmp} {T : TypeId} {g q : Nat} (ho : o.op = .load T (.tmp s)) (hx : fr.tmps[s]?.getD undef = .pointer (some ⟨g, q, none⟩)) (L : List Value) (d : TypeDesc)
    (hc : ∀ j v, L[j]? = some v → w.cell? ⟨g, q + j, none⟩ = some v) (hu : P.underlying T = some d) (hd : (match d with | .struct _ | .array _ _ => true | _ => false) = true) (hi : (P.info? T).map (·.size) = some L.length) : (execOp fr.eval o).run P w = .ok (.value (.agg L.toArray)) w := by
  have hl := Go.Proofs.Ytjdenhkicikfkaa.partC.run_load_part (P := P) w g q T L d hc hu hd hi
  have hx2 : fr.eval (.tmp s) = .pointer (some ⟨g, q, none⟩) := by simpa only [Act.eval, Array.getD_eq_getD_getElem?] using hx
  unfold execOp
  simp only [ho, hx2, Instr.loadAt, Instr.sureAddr, Sem.run_bind, Sem.run_pure, Result.andThen_ok, hl]
/-- a row of ways that is the same as another one -/
theorem rows_one {st l m : List Wy} (h : Inv st) (hl : l.Perm st) (hm : m.Perm st) (sl : l.Pairwise leW) (sm : m.Pairwise leW) : m = l := (all_one h hl hm sl sm).symm
/-- no prefix twice, so far -/
theorem pfx_new {l : List Wy} {x : Wy} (h : (l.map pfx).any (eqW (pfx x)) = false) : ∀ z ∈ l, sameK z x = false := fun z hz => by
  rw [List.any_eq_false] at h
  have h1 := h (pfx z) (List.mem_map_of_mem hz)
  rw [Bool.eq_false_iff]
  intro h2
  rw [sameK_symm] at h2
  exact h1 (eqW_iff.2 (pfx_iff.2 h2))
theorem pair_snoc {l : List Wy} {x : Wy} (h : l.Pairwise fun y z => sameK y z = false) (hx : ∀ z ∈ l, sameK z x = false) : (l ++ [x]).Pairwise fun y z => sameK y z = false := by
  rw [List.pairwise_append]
  refine ⟨h, List.pairwise_singleton _ _, fun z hz y hy => ?_⟩
  obtain rfl := List.mem_singleton.1 hy
  exact hx z hz
def rbV (b5 o5 b6 o6 b7 o7 kx n5 c5 c6 c7 : Nat) (YC : List Value) : Nat → Value → World → Prop
  | 0, v, _ => v = .slice (some ⟨b5, o5, none⟩) n5 c5
  | 1, v, _ => v = .int .i64 kx
  | 2, v, _ => v = .pointer (some ⟨b5, o5 + kx * 37, none⟩)
  | 3, v, _ => v = .agg YC.toArray
  | 4, v, _ => v = .slice (some ⟨b6, o6, none⟩) n5 c6
  | 5, v, _ => v = .int .i64 kx
  | 6, v, _ => v = .pointer (some ⟨b6, o6 + kx * 37, none⟩)
  | 7, v, _ => v = .agg YC.toArray
  | 8, v, _ => v = .bool false
  | 9, v, _ => v = .bool false
  | 10, v, _ => v = .slice (some ⟨b5, o5, none⟩) n5 c5
  | 11, v, _ => v = .int .i64 kx
  | 12, v, _ => v = .pointer (some ⟨b5, o5 + kx * 37, none⟩)
  | 13, v, _ => v = .agg YC.toArray
  | 14, v, _ => v = .slice (some ⟨b7, o7, none⟩) n5 c7
  | 15, v, _ => v = .int .i64 kx
  | 16, v, _ => v = .pointer (some ⟨b7, o7 + kx * 37, none⟩)
  | 17, v, _ => v = .agg YC.toArray
  | 18, v, _ => v = .bool false
  | 19, v, _ => v = .bool false
  | _, _, _ => True
theorem rbV.keep (b5 o5 b6 o6 b7 o7 kx n5 c5 c6 c7 : Nat) (YC : List Value) (i : Nat) (v : Value) (w w' : World) (hb : Below w.heap.size w w') (h : rbV b5 o5 b6 o6 b7 o7 kx n5 c5 c6 c7 YC i v w) : rbV b5 o5 b6 o6 b7 o7 kx n5 c5 c6 c7 YC i v w' := by
  unfold rbV at h ⊢
  split at h <;> exact h
def rbT : List (Option Nat) := [none, none, none, none, none, none, none, none, none, none, none, none, none, none, none, none, none, none, none, none, none, none, none, none, none, none, none, none, none, none, none, none, none, none, none, none, none, none, none, none, none, none, none, none, none, none, none, none, none, none, none, none, none, none, none, none, none, none, none, none, none, none, none, none, none, none, none, none, none, none, none, none, none, none, none, none, none, none, none, none, none, none, none, none, none, none, none, none, none, none, none, none, none, none, none, none, none, none, none, none, none, none, none, none, none, none, none, none, none, none, some 0, some 1, some 2, some 3, some 4, some 5, some 6, some 7, some 8, some 9, some 10, some 11, some 12, some 13, some 14, some 15, some 16, some 17, some 18, some 19, none, none]
set_option maxRecDepth 100000 in
set_option maxHeartbeats 16000000 in
theorem back_walk {Tb : World → (Nat → Prop) → Nat → List Wy → Prop} (F : FrR Tb) (hal : Alive) (A : Option Addr) (n c : Nat) (ss : List Sr) (y : Wy) (w : World) (hk : SksR w w.heap.size A n ss) (hnc : n ≤ c) (hy : y.Ok) :
    Calls Try.prog 4 #[.slice A n c, .agg (wyV y)] w (Ret w (.bool true)) := by
  obtain ⟨g3, hg3⟩ : ∃ g, g = w.heap.size := ⟨_, rfl⟩
  obtain ⟨W, hW⟩ : ∃ W, W = w.alloc (.cells (wyV y) 30) := ⟨_, rfl⟩
  have HB := Lib.hid (show Below w.heap.size w W by rw [hW]; exact alloc_below _ _)
  have R3 := Lib.hid (show W.heap[g3]? = some (.cells (wyV y) 30 (0, 0)) by rw [hW, hg3]; exact heap_alloc_new _ _)
  have AL := Lib.hid hal
  have NC := Lib.hid (fun (w' : World) => F.new w')
  have KT := Lib.hid F.keep
  have LT := Lib.hid F.lt
  have he := fun (a : Addr) (w' : World) => eql_ptr_nil (P := Try.prog) w' a Try.underlying26
  have HP := Lib.hid ((hk.upto (show min (min n 200) 100 ≤ n by omega)).below HB.out HB.out.size)
  have SA := Lib.hid (fun w' => short_any A n c w' hnc)
  obtain ⟨n2, hn2⟩ : ∃ k, k = min n 200 := ⟨_, rfl⟩
  rw [← hn2] at HP SA
  obtain ⟨m, hm⟩ : ∃ k, k = min n2 100 := ⟨_, rfl⟩
  rw [← hm] at HP
  have HM := Lib.hid (show m ≤ 100 by omega)
  have HMC := Lib.hid (show m ≤ c by omega)
  have hmn : (if (100 : Int) < (n2 : Int) then (100 : Int) else (n2 : Int)) = (m : Int) := by split <;> omega
  have hmn2 : min (n2 : Int) 100 = (m : Int) := by omega
  have HMN := Lib.hid hmn
  have HMN2 := Lib.hid hmn2
  generalize ss.take m = ts at *
  have ADD := Lib.hid (fun (w' : World) (S : Nat → Prop) (t : Nat) (l : List Wy) (x : Sr) (hT : Tb w' S t (stOf l)) (hl : ∀ z ∈ l, z.Ok) (hx : x.y.Ok) => (show Calls Try.prog 8 #[.pointer (some ⟨t, 0, none⟩), .agg (wyV x.y)] w' (fun e w2 => ∃ r S', e = .returned (.int .i64 r) ∧ Tb w2 S' t (stOf (l ++ [x.y])) ∧ (∀ k, S' k → S k ∨ w'.heap.size ≤ k) ∧ Fs S w' w2) by
    refine (F.add w' S t _ x.y hT (stOf_inv hl) hx).mono ?_
    rintro e w2 ⟨S', h1, h2, h3, h4⟩
    rw [← stOf_snoc] at h2
    exact ⟨_, S', h1, h2, h3, h4⟩))
  have OKY := Lib.hid (show ∀ z ∈ ts.map (·.y), z.Ok from fun z hz => by
    obtain ⟨x, hx, rfl⟩ := List.mem_map.1 hz
    exact (HP.out.ok x hx).y)
  have INV := Lib.hid (stOf_inv OKY.out)
  have HY := Lib.hid hy
  have ADY := Lib.hid (fun (w' : World) (S : Nat → Prop) (t : Nat) (st : List Wy) (hT : Tb w' S t st) (hi : Inv st) => F.add w' S t st y hT hi hy)
  have DRY := Lib.hid (fun (w' : World) (S : Nat → Prop) (t : Nat) (st : List Wy) (hT : Tb w' S t st) (hi : Inv st) => (show Calls Try.prog 15 #[.pointer (some ⟨t, 0, none⟩), .agg (adrK y.s y.a).toArray, .int .i64 y.len] w' (AddR Tb w' S t (dropE st y) (dropS st y)) from F.drop w' S t st y hT hi hy))
  have ALC := Lib.hid (fun (w' : World) (S : Nat → Prop) (t : Nat) (st : List Wy) (hT : Tb w' S t st) (hi : Inv st) => F.all w' S t st hT hi)
  have HZ := Lib.hid zeroStep
  have HZW := Lib.hid zeroWy
  have HMM := Lib.hid (@run_makeMap Try.prog)
  have FLAG : (0 : Nat) = 0 := rfl
  clear F hal hk hnc hy hn2 hm hmn hmn2
  go_enter Try.func4, Try.ntmps4
  go_upto_region 1 with fail
  rw [← hW]
  rw [← hg3]
  clear hW hg3
  go_upto_region 2 with (first
    | go_skip
    | (go_at_call 6; have fl := FLAG; clear FLAG fl; (refine (NC.out _).mono ?_); rintro e w2 ⟨t, St0, rfl, hT, hS, hb⟩
       have B2 := Lib.hid hb
       have T2 := Lib.hid hT
       have S2 := Lib.hid hS
       clear hb hT hS)
    | (go_at_call 6; (refine (NC.out _).mono ?_); rintro e w3 ⟨u, Su, rfl, hT, hS, hb⟩
       have B3 := Lib.hid hb
       have T3 := Lib.hid hT
       have S3 := Lib.hid hS
       clear hb hT hS))
  have he1 := he ⟨t, 0, none⟩ w3
  have he2 := he ⟨u, 0, none⟩ w3
  have T23 := Lib.hid (KT.out w2 w3 St0 t _ T2.out B3.out.size (fun k hk => B3.out.block k (LT.out _ _ _ _ T2.out k hk)))
  have D0 := Lib.hid (show ∀ k, St0 k → W.heap.size ≤ k ∧ ¬ Su k from fun k hk => ⟨S2.out k hk, fun h => by have := LT.out _ _ _ _ T2.out k hk; have := S3.out k h; omega⟩)
  have U0 := Lib.hid (show ∀ k, Su k → W.heap.size ≤ k from fun k hk => Nat.le_trans B2.out.size (S3.out k hk))
  have BW3 := Lib.hid (B2.out.trans (B3.out.mono B2.out.size))
  have hmn := HMN.out
  have hmn2 := HMN2.out
  have sc := cut_headR A n2 c m HMC.out w3
  clear he T2 B2 B3 S2 S3
  go_upto_region 5 with (first
    | go_skip
    | (go_at_call 7; refine (SA.out _).mono ?_; rintro e w4 ⟨rfl, hw⟩; obtain rfl := hw.symm))
  clear he1 he2 hmn hmn2 sc
  have hmm := HMM.out
  go_upto_region 6 with fail
  clear hmm
  have A7 := alloc_below w3 (.map #[] 0)
  have SI := Lib.hid (SetW.made w3)
  obtain ⟨w7, hw7⟩ : ∃ W, W = w3.alloc (.map #[] 0) := ⟨_, rfl⟩
  obtain ⟨gm, hgm⟩ : ∃ g, g = w3.heap.size := ⟨_, rfl⟩
  rw [← hw7] at A7 SI ⊢
  rw [← hgm] at SI ⊢
  have T7 := Lib.hid (KT.out w3 w7 St0 t _ T23.out A7.size (fun k hk => A7.block k (LT.out _ _ _ _ T23.out k hk)))
  have U7 := Lib.hid (KT.out w3 w7 Su u _ T3.out A7.size (fun k hk => A7.block k (LT.out _ _ _ _ T3.out k hk)))
  have D7 := Lib.hid (show ∀ k, St0 k → W.heap.size ≤ k ∧ ¬ Su k ∧ k ≠ gm from fun k hk => ⟨(D0.out k hk).1, (D0.out k hk).2, by have := LT.out _ _ _ _ T23.out k hk; omega⟩)
  have NU := Lib.hid (show ¬ Su gm from fun h => by have := LT.out _ _ _ _ T3.out gm h; omega)
  have GM := Lib.hid (show W.heap.size ≤ gm by rw [hgm]; exact BW3.out.size)
  have B7 := Lib.hid (show Below W.heap.size W w7 from BW3.out.trans (A7.mono BW3.out.size))
  clear hw7 hgm A7 T23 T3 D0 BW3
  go_upto_region 7 with fail
  go_loopw [35] (fun v wr => ∃ (i : Nat) (S : Nat → Prop), v = .int .i64 i ∧ i ≤ m ∧ Tb wr S t (stOf ((ts.take i).map (·.y))) ∧ (∀ k, S k → W.heap.size ≤ k ∧ ¬ Su k ∧ k ≠ gm) ∧ Tb wr Su u [] ∧ SetW wr gm (((ts.take i).map (·.y)).map pfx) ∧ ((ts.take i).map (·.y)).Pairwise (fun y z => sameK y z = false) ∧ Below W.heap.size W wr) (fun v _ => 1000 - (intOf v).toNat)
  case atStart => exact ⟨0, St0, rfl, Nat.zero_le _, T7.out, D7.out, U7.out, SI.out, List.Pairwise.nil, B7.out⟩
  case round =>
    obtain ⟨i, S, rfl, hi, hT, hS, hU, hM, hP, hb⟩ := hrel
    have HT := Lib.hid hT
    have HS := Lib.hid hS
    have HU := Lib.hid hU
    have HMP := Lib.hid hM
    have HPW := Lib.hid hP
    have HBW := Lib.hid hb
    have HWL := Lib.hid hb.size
    have OKT := Lib.hid (show ∀ z ∈ (ts.take i).map (·.y), z.Ok from fun z hz => by
      obtain ⟨x, hx, rfl⟩ := List.mem_map.1 hz
      exact (HP.out.ok x (List.mem_of_mem_take hx)).y)
    by_cases hlt : i < m
    · have q6 : (i : Int) < (m : Int) := by omega
      have wi : IntKind.i64.wrap ((i : Int) + 1) = (i : Int) + 1 := IntWalk.i64_in _ (by have := HM.out; omega)
      obtain ⟨x, hx⟩ : ∃ x, ts[i]? = some x := ⟨_, List.getElem?_eq_getElem (by rw [HP.out.len]; exact hlt)⟩
      have ox := HP.out.ok x (List.mem_of_getElem? hx)
      have HTK := Lib.hid (show (ts.take (i + 1)).map (·.y) = (ts.take i).map (·.y) ++ [x.y] by rw [List.take_add_one, hx, List.map_append]; rfl)
      obtain ⟨b1, o1, hA1, hb1, c1⟩ := HP.out.at_ (by omega)
      have C1 := Lib.hid (show ∀ q v, x.cells[q]? = some v → wr.cell? ⟨b1, o1 + i * 55 + q, none⟩ = some v from fun q v hv => (hb.cell (p := ⟨b1, o1 + i * 55 + q, none⟩) hb1).trans (c1 i x hx q v hv))
      have IS := Lib.hid (show (Try.prog.info? 32).map (·.size) = some x.cells.length by rw [Sr.cells_len ox]; exact step_info)
      have IS2 := Lib.hid (Sr.size ox)
      have ZSZ := Lib.hid (show zSr.cells.toArray.size = x.cells.toArray.size by rw [zSr_len, List.size_toArray, Sr.cells_len ox])
      have OS := Lib.hid (Sr.ones x)
      obtain ⟨W6, hW6⟩ : ∃ W6, W6 = wr.alloc (.cells x.cells.toArray 32) := ⟨_, rfl⟩
      obtain ⟨g8, hg8⟩ : ∃ g, g = wr.heap.size := ⟨_, rfl⟩
      have R8 := Lib.hid (show W6.heap[g8]? = some (.cells x.cells.toArray 32 (0, 0)) by rw [hW6, hg8]; exact heap_alloc_new _ _)
      have A6 := Lib.hid (show Below wr.heap.size wr W6 by rw [hW6]; exact alloc_below _ _)
      obtain ⟨PP, hPP⟩ : ∃ P, P = wyV (pfx x.y) := ⟨_, rfl⟩
      obtain ⟨W8, hW8⟩ : ∃ W8, W8 = W6.alloc (.cells PP 35) := ⟨_, rfl⟩
      obtain ⟨g9, hg9⟩ : ∃ g, g = W6.heap.size := ⟨_, rfl⟩
      have R9 := Lib.hid (show W8.heap[g9]? = some (.cells PP 35 (0, 0)) by rw [hW8, hg9]; exact heap_alloc_new _ _)
      have A8 := Lib.hid (show Below W6.heap.size W6 W8 by rw [hW8]; exact alloc_below _ _)
      have A68 := Lib.hid (A6.out.trans (A8.out.mono A6.out.size))
      have IPP := Lib.hid (show (Try.prog.info? 35).map (·.size) = some PP.size by rw [hPP]; exact wyV_info (pfx_ok ox.y))
      have ZPP := Lib.hid (show (wyV zWy).size = PP.size by rw [hPP]; exact wy_zsize zWy_ok (pfx_ok ox.y))
      have OPP := Lib.hid (show PP.all (·.oneCell') = true by rw [hPP]; exact wy_ones _)
      have BPP := Lib.hid (show Try.prog.built 35 [(0, .agg (adrK x.y.s x.y.a).toArray), (1, .int .i64 x.y.len)] = some PP by rw [hPP]; exact pfx_built ox.y)
      have c18 : W6.cell? ⟨g8, 18, none⟩ = some (.int .i64 x.y.len) := pkC.PkC.cell R8.out (by rw [List.getElem?_toArray]; exact Sr.way ox 17 _ (wy_len ox.y))
      have C6 := Lib.hid (show ∀ j v, (adrK x.y.s x.y.a)[j]? = some v → W6.cell? ⟨g8, 1 + j, none⟩ = some v from fun j v hv => pkC.PkC.cell R8.out (by rw [List.getElem?_toArray]; exact Sr.way ox j v (by have := wy_src ox.y j v hv; rwa [Nat.zero_add] at this)))
      have C8 := Lib.hid (fun (w' : World) (h : w'.heap[g8]? = some (.cells x.cells.toArray 32 (0, 0))) => (show ∀ j v, (wyL x.y)[j]? = some v → w'.cell? ⟨g8, 1 + j, none⟩ = some v from fun j v hv => pkC.PkC.cell h (by rw [List.getElem?_toArray]; exact Sr.way ox j v hv)))
      have IA6 := Lib.hid (adrK_info (s := x.y.s) ox.y.la)
      have IY := Lib.hid (rwyL_info ox.y)
      have TH := Lib.hid (fun w' => (show Calls Try.prog 9 #[.agg (wyL x.y).toArray] w' (Ret w' (.agg (wyV x.y))) from theirs_any x.y w' ox.y))
      have AD := Lib.hid (fun w' S' (hT : Tb w' S' t (stOf ((ts.take i).map (·.y)))) => ADD.out w' S' t _ x hT OKT.out ox.y)
      have LKU := Lib.hid (show (Instr.lookup 45 (.map (some gm)) (.agg PP) false).run Try.prog W8 = .ok (.bool ((((ts.take i).map (·.y)).map pfx).any (eqW (pfx x.y)))) W8 by
        rw [hPP]
        exact run_lookW (HMP.out.same (A68.out.block _ HMP.out.lt)) (fun z hz => by
          obtain ⟨z', hz', rfl⟩ := List.mem_map.1 hz
          exact pfx_ok (OKT.out z' hz')) (pfx_ok ox.y))
      have HI := Lib.hid hlt
      have HPP := Lib.hid hPP
      have OX := Lib.hid ox
      have hzs := HZ.out
      have hzw := HZW.out
      obtain ⟨hit, hhit⟩ : ∃ q, q = (((ts.take i).map (·.y)).map pfx).any (eqW (pfx x.y)) := ⟨_, rfl⟩
      rw [← hhit] at LKU
      have HIT := Lib.hid hhit
      have HG8 := Lib.hid hg8
      have HG9 := Lib.hid hg9
      subst hA1
      generalize hXC : x.cells = XC at *
      generalize hYC : wyL x.y = YC at *
      generalize hKC : adrK x.y.s x.y.a = KC at *
      generalize hln : x.y.len = ln at *
      clear hi hT hS hU hM hP hb hx ox hb1 c1 hlt hPP hhit hXC hYC hKC hln
      go_upto_region 9 with (first
        | (refine pkC.wpList_load_partG (by kernel_rfl) 32 (.tmp 37) rfl b1 (o1 + i * 55) (by kernel_rfl) XC _ C1.out Try.underlying32 rfl IS.out ?_)
        | (refine wpList_store_row rfl 32 (.tmp 10) (.tmp 38) rfl wr.heap.size XC.toArray rfl rfl _ _ (heap_alloc_new _ _) IS2.out ZSZ.out OS.out ?_; rw [World.setRow_alloc_new]))
      rw [← hW6, ← hg8]
      clear hW6 hg8 hzs
      go_upto_region 10 with (first
        | (refine pkC.wpList_load_partG (by kernel_rfl) 25 (.tmp 40) rfl g8 1 (by kernel_rfl) KC _ C6.out Try.underlying25 rfl IA6.out ?_)
        | (with_reducible refine at_build 35 ?_; refine wpList_runG (by kernel_rfl) _ (built_runR (T := 35) (L := [(0, .agg KC.toArray), (1, .int .i64 ln)]) rfl rfl BPP.out) ?_)
        | (refine wpList_store_row rfl 35 (.tmp 11) (.tmp 45) rfl W6.heap.size PP rfl rfl _ _ (heap_alloc_new _ _) IPP.out ZPP.out OPP.out ?_; rw [World.setRow_alloc_new]))
      rw [← hW8, ← hg9]
      clear hW8 hg9 c18 hzw
      cases hit
      rotate_left
      · go_wp2_with (first
          | (refine wpList_load_row rfl 35 (.tmp 11) rfl g9 rfl _ _ _ _ R9.out Try.underlying35 rfl IPP.out ?_)
          | (refine wpList_lookW rfl (.tmp 46) (.tmp 47) rfl rfl rfl LKU.out ?_)
          | (go_at_call 14; refine (AL.out _).mono ?_; rintro e w9 ⟨rfl, hb⟩
             have BE := Lib.hid (show Below W.heap.size W w9 from HBW.out.trans ((A68.out.trans (hb.mono A68.out.size)).mono HWL.out))
             clear hb))
        go_ret
        exact ⟨rfl, HB.out.trans (BE.out.mono HB.out.size)⟩
      go_upto_region 12 with (first
        | (refine wpList_load_row rfl 35 (.tmp 11) rfl g9 rfl _ _ _ _ R9.out Try.underlying35 rfl IPP.out ?_)
        | (refine wpList_lookW rfl (.tmp 46) (.tmp 47) rfl rfl rfl LKU.out ?_))
      clear LKU
      have HM8 := Lib.hid (show SetW W8 gm (((ts.take i).map (·.y)).map pfx) from HMP.out.same (A68.out.block _ HMP.out.lt))
      have OKP := Lib.hid (show ∀ z ∈ ((ts.take i).map (·.y)).map pfx, z.Ok from fun z hz => by
        obtain ⟨z', hz', rfl⟩ := List.mem_map.1 hz
        exact pfx_ok (OKT.out z' hz'))
      have NEW := Lib.hid (show ∀ z ∈ ((ts.take i).map (·.y)).map pfx, z ≠ pfx x.y from fun z hz e => by
        have h := HIT.out.symm
        rw [List.any_eq_false] at h
        exact h z hz (eqW_iff.2 e.symm))
      have PNW := Lib.hid (pfx_new HIT.out.symm)
      have GLT := Lib.hid (show gm < g8 by rw [HG8.out]; exact HMP.out.lt)
      have T8 := Lib.hid (KT.out wr W8 S t _ HT.out A68.out.size (fun k hk => A68.out.block k (LT.out _ _ _ _ HT.out k hk)))
      have U8 := Lib.hid (KT.out wr W8 Su u _ HU.out A68.out.size (fun k hk => A68.out.block k (LT.out _ _ _ _ HU.out k hk)))
      have R88 := Lib.hid (show W8.heap[g8]? = some (.cells XC.toArray 32 (0, 0)) from (A8.out.block _ (lt_of_row R8.out)).trans R8.out)
      have B8 := Lib.hid (show Below W.heap.size W W8 from HBW.out.trans (A68.out.mono HWL.out))
      go_upto_region 13 with (first
        | (refine wpList_load_row rfl 35 (.tmp 11) rfl g9 rfl _ _ _ _ R9.out Try.underlying35 rfl IPP.out ?_)
        | (at_mapUpdate; refine wpList_putW rfl (.tmp 50) (.tmp 51) (.const (.bool true)) rfl rfl rfl rfl HPP.out HM8.out OKP.out (pfx_ok OX.out.y) NEW.out ?_; intro w10 hm10 hb10 hs10
           have M10 := Lib.hid hm10
           have K10 := Lib.hid hb10
           have Z10 := Lib.hid hs10
           clear hm10 hb10 hs10))
      have TT := Lib.hid (KT.out W8 w10 S t _ T8.out K10.out.size (fun k hk => K10.out.block k (LT.out _ _ _ _ T8.out k hk) ((HS.out k hk).2.2)))
      have UU := Lib.hid (KT.out W8 w10 Su u _ U8.out K10.out.size (fun k hk => K10.out.block k (LT.out _ _ _ _ U8.out k hk) (fun e => NU.out (e ▸ hk))))
      have R10 := Lib.hid ((K10.out.block _ (lt_of_row R88.out) (by have := GLT.out; omega)).trans R88.out)
      have C10 := Lib.hid (C8.out w10 R10.out)
      have BB := Lib.hid (show Below W.heap.size W w10 from B8.out.trans (But.to_below K10.out GM.out B8.out.size))
      clear T8 U8 R88 B8 R9 IPP ZPP OPP BPP HM8 OKP NEW HIT C8
      go_wp2_with (first
        | (refine pkC.wpList_load_partG (by kernel_rfl) 30 (.tmp 53) rfl g8 1 (by kernel_rfl) YC _ C10.out Try.underlying30 rfl IY.out ?_)
        | (go_at_call 9; (with_reducible refine (TH.out _).mono ?_); rintro e w11 ⟨rfl, hb⟩
           have TT := Lib.hid (KT.out _ w11 _ _ _ TT.out hb.size (fun k hk => hb.block k (LT.out _ _ _ _ TT.out k hk)))
           have UU := Lib.hid (KT.out _ w11 _ _ _ UU.out hb.size (fun k hk => hb.block k (LT.out _ _ _ _ UU.out k hk)))
           have M10 := Lib.hid (M10.out.same (hb.block _ M10.out.lt))
           have BB := Lib.hid (BB.out.trans (hb.mono BB.out.size))
           clear hb)
        | (go_at_call 8; (with_reducible refine (AD.out _ _ TT.out).mono ?_); rintro e w12 ⟨r8, S8, rfl, hT, hS, hF⟩
           have NS := Lib.hid (fun k (h : S8 k) => (show W.heap.size ≤ k ∧ ¬ Su k ∧ k ≠ gm from (hS k h).elim (HS.out k) (fun h2 => ⟨Nat.le_trans BB.out.size h2, fun h3 => by have := LT.out _ _ _ _ UU.out k h3; omega, by have := M10.out.lt; omega⟩)))
           have UU := Lib.hid (KT.out _ w12 _ _ _ UU.out hF.size (fun k hk => hF.block k (LT.out _ _ _ _ UU.out k hk) (fun h => (HS.out k h).2.1 hk)))
           have M10 := Lib.hid (M10.out.same (hF.block _ M10.out.lt (fun h => (HS.out _ h).2.2 rfl)))
           have hb := hF.to_below (fun k hk => (HS.out k hk).1) BB.out.size
           have TT := Lib.hid hT
           have BB := Lib.hid (BB.out.trans hb)
           clear hT hS hF hb))
      go_roundw
      case rel => exact ⟨i + 1, S8, by simp, HI.out, by rw [HTK.out]; exact TT.out, NS.out, UU.out, by rw [HTK.out, List.map_append]; exact M10.out, by rw [HTK.out]; exact pair_snoc HPW.out PNW.out, BB.out⟩
      case measure => have := HM.out; have := HI.out; simp [intOf]; omega
    have ei : i = m := by omega
    subst ei
    have q6 : ¬ (i : Int) < (i : Int) := by omega
    have ets : ts.take i = ts := List.take_of_length_le (by rw [HP.out.len]; exact Nat.le_refl _)
    obtain ⟨ys, hys⟩ : ∃ ys, ys = ts.map (·.y) := ⟨_, rfl⟩
    rw [ets, ← hys] at hT hP
    rw [← hys] at INV OKY
    have TT := Lib.hid hT
    have UU := Lib.hid hU
    have HPY := Lib.hid hP
    have HYS := Lib.hid hys
    have HYL := Lib.hid (show ys.length = i by rw [hys, List.length_map, HP.out.len])
    have BB := Lib.hid hb
    clear hi hT hS hU hM hP hb hlt HT HU HMP HPW HBW OKT ets hys
    go_upto_region 15 with fail
    go_upto_region 16 with (first
      | (go_at_call 11; (with_reducible refine (ALC.out _ _ _ _ TT.out INV.out).mono ?_); rintro e w12 ⟨A5, n5, c5, l, rfl, nc5, cm5, hp, hs, hr, hb⟩
         have HPM := Lib.hid hp
         have HSL := Lib.hid hs
         have HRW := Lib.hid hr
         have HC5 := Lib.hid (show n5 ≤ 9223372036854775807 by omega)
         have SF := Lib.hid (show ∀ k, S k → W.heap.size ≤ k ∧ ¬ Su k ∧ ¬ (wr.heap.size ≤ k ∧ k < w12.heap.size) from fun k hk => ⟨(HS.out k hk).1, (HS.out k hk).2.1, fun h => by have := LT.out _ _ _ _ TT.out k hk; omega⟩)
         have UL0 := Lib.hid (show ∀ k, Su k → k < w12.heap.size from fun k hk => Nat.lt_of_lt_of_le (LT.out _ _ _ _ UU.out k hk) hb.size)
         have UF := Lib.hid (show ∀ k, Su k → W.heap.size ≤ k ∧ ¬ (wr.heap.size ≤ k ∧ k < w12.heap.size) from fun k hk => ⟨U0.out k hk, fun h => by have := LT.out _ _ _ _ UU.out k hk; omega⟩)
         have TT := Lib.hid (KT.out _ w12 _ _ _ TT.out hb.size (fun k hk => hb.block k (LT.out _ _ _ _ TT.out k hk)))
         have UU := Lib.hid (KT.out _ w12 _ _ _ UU.out hb.size (fun k hk => hb.block k (LT.out _ _ _ _ UU.out k hk)))
         have BB := Lib.hid (BB.out.trans (hb.mono BB.out.size))
         clear hb hp hs hr nc5 cm5))
    obtain ⟨p5, hp5⟩ : ∃ p, p = wr.heap.size := ⟨_, rfl⟩
    obtain ⟨q5, hq5⟩ : ∃ p, p = w12.heap.size := ⟨_, rfl⟩
    rw [← hp5, ← hq5] at SF UF HRW
    rw [← hq5] at UL0
    have RY := Lib.hid (fun (w' : World) (h : Below W.heap.size W w') => (show w'.heap[g3]? = some (.cells (wyV y) 30 (0, 0)) from (h.block _ (lt_of_row R3.out)).trans R3.out))
    have ry := Lib.hid (RY.out w12 BB.out)
    have IYY := Lib.hid (show (Try.prog.info? 30).map (·.size) = some (wyV y).size by rw [wyV_size HY.out]; exact rwy_info)
    have TH := Lib.hid (fun w' => theirs_any y w' HY.out)
    have AD := Lib.hid (fun w' S' (hT : Tb w' S' t (stOf ys)) => ADY.out w' S' t _ hT INV.out)
    clear hp5 hq5 R3 HS
    have CY0 := Lib.hid (fun (w' : World) (h : Below W.heap.size W w') => (show ∀ q v, (adrK y.s y.a)[q]? = some v → w'.cell? ⟨g3, 0 + q, none⟩ = some v from fun q v hv => wyV_row (RY.out w' h) (wy_src HY.out q v hv)))
    have CY17 := Lib.hid (fun (w' : World) (h : Below W.heap.size W w') => (show w'.cell? ⟨g3, 17, none⟩ = some (.int .i64 y.len) from wyV_row (RY.out w' h) (wy_len HY.out)))
    have IKY := Lib.hid (adrK_info (s := y.s) HY.out.la)
    have INVR := Lib.hid (show Inv (stOf ys.reverse) from stOf_inv fun z hz => OKY.out z (List.mem_reverse.1 hz))
    have ALT := Lib.hid (fun w' S' (hT : Tb w' S' t (stOf ys)) => ALC.out w' S' t _ hT INV.out)
    have ALU := Lib.hid (fun w' S' (hT : Tb w' S' u (stOf ys.reverse)) => ALC.out w' S' u _ hT INVR.out)
    have UL := Lib.hid (show ∀ k, Su k → k < q5 from fun k hk => UL0.out k hk)
    have wm : IntKind.i64.wrap ((i : Int) - 1) = (i : Int) - 1 := IntWalk.i64_in _ (by have := HM.out; omega)
    clear ALC RY
    by_cases e0 : addE (stOf ys) y = 0
    · have ed := add_drop e0
      have DR := Lib.hid (fun w' S' (hT : Tb w' S' t (addS (stOf ys) y)) => (show Calls Try.prog 15 #[.pointer (some ⟨t, 0, none⟩), .agg (adrK y.s y.a).toArray, .int .i64 y.len] w' (AddR Tb w' S' t 0 (stOf ys)) by
        have h := DRY.out w' S' t _ hT (INV.out.add HY.out)
        rw [ed.1, ed.2] at h
        exact h))
      rw [e0] at AD
      clear ed e0 ADY DRY
      generalize adrK y.s y.a = KY at *
      generalize y.len = yl at *
      go_upto_region 18 with (first
        | go_skip
        | (refine wpList_load_row rfl 30 (.tmp 3) rfl g3 rfl _ _ _ _ ry.out Try.underlying30 rfl IYY.out ?_)
        | (go_at_call 9; (with_reducible refine (TH.out _).mono ?_); rintro e w13 ⟨rfl, hb⟩
           have UU := Lib.hid (KT.out _ w13 _ _ _ UU.out hb.size (fun k hk => hb.block k (LT.out _ _ _ _ UU.out k hk)))
           have TT := Lib.hid (KT.out _ w13 _ _ _ TT.out hb.size (fun k hk => hb.block k (LT.out _ _ _ _ TT.out k hk)))
           have HRW := Lib.hid (HRW.out.below hb HRW.out.le)
           have BB := Lib.hid (BB.out.trans (hb.mono BB.out.size))
           clear hb)
        | (go_at_call 8; (with_reducible refine (AD.out _ _ TT.out).mono ?_); rintro e w14 ⟨S13, rfl, hT, hS, hF⟩
           have HRW2 := Lib.hid (HRW.out.fs hF (fun k h1 h2 hk => (SF.out k hk).2.2 ⟨h1, h2⟩))
           have UU := Lib.hid (KT.out _ w14 _ _ _ UU.out hF.size (fun k hk => hF.block k (LT.out _ _ _ _ UU.out k hk) (fun h => (SF.out k h).2.1 hk)))
           have hb := hF.to_below (fun k hk => (SF.out k hk).1) BB.out.size
           have TT := Lib.hid hT
           have SF := Lib.hid (fun k (h : S13 k) => (show W.heap.size ≤ k ∧ ¬ Su k ∧ ¬ (p5 ≤ k ∧ k < q5) from (hS k h).elim (SF.out k) (fun h2 => ⟨Nat.le_trans BB.out.size h2, fun h3 => (by have h4 := UL.out k h3; have := HRW.out.le; omega), fun h3 => by have := HRW.out.le; omega⟩)))
           have BB := Lib.hid (BB.out.trans hb)
           have HRW := Lib.hid HRW2.out
           clear hT hS hF hb HRW2
           have cy17 := CY17.out w14 BB.out
           have cy0 := Lib.hid (CY0.out w14 BB.out))
        | (with_reducible refine atC.at_load 25 67 ?_; refine pkC.wpList_load_partG (by kernel_rfl) 25 (.tmp 67) (by kernel_rfl) g3 0 (by kernel_rfl) KY _ cy0.out Try.underlying25 rfl IKY.out ?_)
        | (go_at_call 15; (with_reducible refine (DR.out _ _ TT.out).mono ?_); rintro e w15 ⟨St, rfl, hT, hS, hF⟩
           have HRW2 := Lib.hid (HRW.out.fs hF (fun k h1 h2 hk => (SF.out k hk).2.2 ⟨h1, h2⟩))
           have UU := Lib.hid (KT.out _ w15 _ _ _ UU.out hF.size (fun k hk => hF.block k (LT.out _ _ _ _ UU.out k hk) (fun h => (SF.out k h).2.1 hk)))
           have hb := hF.to_below (fun k hk => (SF.out k hk).1) BB.out.size
           have TT := Lib.hid hT
           have SF := Lib.hid (fun k (h : St k) => (show W.heap.size ≤ k ∧ ¬ Su k ∧ ¬ (p5 ≤ k ∧ k < q5) from (hS k h).elim (SF.out k) (fun h2 => ⟨Nat.le_trans BB.out.size h2, fun h3 => (by have h4 := UL.out k h3; have := HRW.out.le; omega), fun h3 => by have := HRW.out.le; omega⟩)))
           have BB := Lib.hid (BB.out.trans hb)
           have HRW := Lib.hid HRW2.out
           clear hT hS hF hb HRW2))
      clear AD TH ry IYY CY0 CY17 IKY
      have SU := Lib.hid (show ∀ k, Su k → W.heap.size ≤ k ∧ ¬ St k ∧ ¬ (p5 ≤ k ∧ k < q5) from fun k hk => ⟨(UF.out k hk).1, fun h => (SF.out k h).2.1 hk, (UF.out k hk).2⟩)
      go_upto_region 19 with fail
      clear wm
      go_loopw [13] (fun v wr => ∃ (q : Nat) (Sq : Nat → Prop), v = .int .i64 ((q : Int) - 1) ∧ q ≤ i ∧ Tb wr Sq u (stOf (ys.drop q).reverse) ∧ (∀ k, Sq k → W.heap.size ≤ k ∧ ¬ St k ∧ ¬ (p5 ≤ k ∧ k < q5)) ∧ Tb wr St t (stOf ys) ∧ RowW wr p5 q5 A5 n5 l ∧ Below W.heap.size W wr) (fun v _ => (intOf v + 1).toNat)
      case atStart => exact ⟨i, Su, rfl, Nat.le_refl _, by rw [List.drop_of_length_le (by rw [HYL.out]; exact Nat.le_refl _)]; exact UU.out, SU.out, TT.out, HRW.out, BB.out⟩
      case round =>
        obtain ⟨q, Sq, rfl, hq, hU, hSq, hT, hR, hb⟩ := hrel
        have UU := Lib.hid hU
        have SQ := Lib.hid hSq
        have TT := Lib.hid hT
        have HRW := Lib.hid hR
        have BB := Lib.hid hb
        cases q with
        | succ q =>
          rw [show ((q + 1 : Nat) : Int) - 1 = (q : Int) by omega]
          have q6 : (0 : Int) ≤ (q : Int) := by omega
          have q7 : (q : Int) < (i : Int) := by omega
          have wq : IntKind.i64.wrap ((q : Int) - 1) = (q : Int) - 1 := IntWalk.i64_in _ (by have := HM.out; omega)
          obtain ⟨x, hx⟩ : ∃ x, ts[q]? = some x := ⟨_, List.getElem?_eq_getElem (by rw [HP.out.len]; omega)⟩
          have ox := HP.out.ok x (List.mem_of_getElem? hx)
          obtain ⟨b1, o1, hA1, hb1, c1⟩ := HP.out.at_ (by omega)
          have C1 := Lib.hid (show ∀ j v, (wyL x.y)[j]? = some v → wr.cell? ⟨b1, o1 + q * 55 + 1 + j, none⟩ = some v from fun j v hv => by
            rw [Nat.add_assoc (o1 + q * 55) 1 j]
            exact (hb.cell (p := ⟨b1, o1 + q * 55 + (1 + j), none⟩) hb1).trans (c1 q x hx (1 + j) v (Sr.way ox j v hv)))
          have IY := Lib.hid (rwyL_info ox.y)
          have TH := Lib.hid (fun w' => (show Calls Try.prog 9 #[.agg (wyL x.y).toArray] w' (Ret w' (.agg (wyV x.y))) from theirs_any x.y w' ox.y))
          have HRV := Lib.hid (show (ys.drop q).reverse = (ys.drop (q + 1)).reverse ++ [x.y] by
            have h1 : ys[q]? = some x.y := by rw [HYS.out, List.getElem?_map, hx]; rfl
            obtain ⟨h2, h3⟩ := List.getElem?_eq_some_iff.1 h1
            rw [List.drop_eq_getElem_cons h2, List.reverse_cons, h3])
          have AD := Lib.hid (fun w' S' (hT : Tb w' S' u (stOf (ys.drop (q + 1)).reverse)) => ADD.out w' S' u _ x hT (fun z hz => OKY.out z (List.mem_of_mem_drop (List.mem_reverse.1 hz))) ox.y)
          have HQ := Lib.hid (show q ≤ i by omega)
          subst hA1
          generalize wyL x.y = YC at *
          clear hq hU hSq hT hR hb hx ox hb1 c1
          go_wp2_with (first
            | (refine pkC.wpList_load_partG (by kernel_rfl) 30 (.tmp 85) rfl b1 (o1 + q * 55 + 1) (by kernel_rfl) YC _ C1.out Try.underlying30 rfl IY.out ?_)
            | (go_at_call 9; (with_reducible refine (TH.out _).mono ?_); rintro e w13 ⟨rfl, hb⟩
               have UU := Lib.hid (KT.out _ w13 _ _ _ UU.out hb.size (fun k hk => hb.block k (LT.out _ _ _ _ UU.out k hk)))
               have TT := Lib.hid (KT.out _ w13 _ _ _ TT.out hb.size (fun k hk => hb.block k (LT.out _ _ _ _ TT.out k hk)))
               have HRW := Lib.hid (HRW.out.below hb HRW.out.le)
               have BB := Lib.hid (BB.out.trans (hb.mono BB.out.size))
               clear hb)
            | (go_at_call 8; (with_reducible refine (AD.out _ _ UU.out).mono ?_); rintro e w14 ⟨r8, S8, rfl, hT, hS, hF⟩
               have HRW2 := Lib.hid (HRW.out.fs hF (fun k h1 h2 hk => (SQ.out k hk).2.2 ⟨h1, h2⟩))
               have TT2 := Lib.hid (KT.out _ w14 _ _ _ TT.out hF.size (fun k hk => hF.block k (LT.out _ _ _ _ TT.out k hk) (fun h => (SQ.out k h).2.1 hk)))
               have hb := hF.to_below (fun k hk => (SQ.out k hk).1) BB.out.size
               have S8F := Lib.hid (fun k (h : S8 k) => (show W.heap.size ≤ k ∧ ¬ St k ∧ ¬ (p5 ≤ k ∧ k < q5) from (hS k h).elim (SQ.out k) (fun h2 => ⟨Nat.le_trans BB.out.size h2, fun h3 => (by have h4 := LT.out _ _ _ _ TT.out k h3; omega), fun h3 => by have := HRW.out.le; omega⟩)))
               have UU := Lib.hid hT
               have TT := Lib.hid TT2.out
               have BB := Lib.hid (BB.out.trans hb)
               have HRW := Lib.hid HRW2.out
               clear hT hS hF hb HRW2 TT2))
          go_roundw
          case rel => exact ⟨q, S8, rfl, HQ.out, by rw [HRV.out]; exact UU.out, S8F.out, TT.out, HRW.out, BB.out⟩
          case measure => simp [intOf] <;> omega
        | zero =>
          rw [show ((0 : Nat) : Int) - 1 = -1 from rfl]
          rw [List.drop_zero] at UU
          have PRM := Lib.hid (show (stOf ys.reverse).Perm (stOf ys) from stOf_reverse HPY.out (by have := HYL.out; have := HM.out; omega))
          clear hq hU hSq hT hR hb ADD SU SF UF UL UL0
          go_upto_region 23 with (first
            | go_skip
            | (go_at_call 11; (with_reducible refine (ALT.out _ _ TT.out).mono ?_); rintro e w16 ⟨A6, n6, c6, l2, rfl, nc6, cm6, hp, hs, hr, hb⟩
               rw [rows_one INV.out HPM.out hp HSL.out hs] at hr
               have en : n5 = n6 := by rw [← hr.len, ← HRW.out.len]
               subst en
               have HR6 := Lib.hid hr
               have UU := Lib.hid (KT.out _ w16 _ _ _ UU.out hb.size (fun k hk => hb.block k (LT.out _ _ _ _ UU.out k hk)))
               have HRW := Lib.hid (HRW.out.below hb HRW.out.le)
               have BB := Lib.hid (BB.out.trans (hb.mono BB.out.size))
               clear hb hp hs hr nc6 cm6)
            | (go_at_call 11; (with_reducible refine (ALU.out _ _ UU.out).mono ?_); rintro e w17 ⟨A7, n7, c7, l3, rfl, nc7, cm7, hp, hs, hr, hb⟩
               rw [rows_one INV.out HPM.out (hp.trans PRM.out) HSL.out hs] at hr
               have en : n5 = n7 := by rw [← hr.len, ← HRW.out.len]
               subst en
               have HR7 := Lib.hid hr
               have HR6 := Lib.hid (HR6.out.below hb HR6.out.le)
               have HRW := Lib.hid (HRW.out.below hb HRW.out.le)
               have BB := Lib.hid (BB.out.trans (hb.mono BB.out.size))
               clear hb hp hs hr nc7 cm7))
          clear ALT ALU TT UU PRM
          have q5n : ((n5 : Int) != (n5 : Int)) = false := by simp
          go_upto_region 26 with fail
          clear q5n
          go_loopw [107] (fun v wr => ∃ ix : Nat, v = .int .i64 ix ∧ ix ≤ n5 ∧ Below w17.heap.size w17 wr) (fun v _ => n5 + 1 - (intOf v).toNat)
          case atStart => exact ⟨0, rfl, Nat.zero_le _, Below.refl _ _⟩
          case round =>
            obtain ⟨ix, rfl, hi, hb⟩ := hrel
            have HBW := Lib.hid hb
            by_cases hlt : ix < n5
            rotate_left
            · have q8 : ¬ (ix : Int) < (n5 : Int) := by omega
              have BL := Lib.hid (BB.out.trans (hb.mono BB.out.size))
              clear hi hb hlt
              go_wp2_with (first
                | (go_at_call 14; refine (AL.out _).mono ?_; rintro e w19 ⟨rfl, hb⟩
                   have BE := Lib.hid (BL.out.trans (hb.mono BL.out.size))
                   clear hb))
              go_ret
              exact ⟨rfl, HB.out.trans (BE.out.mono HB.out.size)⟩
            have q8 : (ix : Int) < (n5 : Int) := by omega
            have wx : IntKind.i64.wrap ((ix : Int) + 1) = (ix : Int) + 1 := IntWalk.i64_in _ (by have := HC5.out; omega)
            obtain ⟨x, hx⟩ : ∃ x, l[ix]? = some x := ⟨_, List.getElem?_eq_getElem (by rw [HRW.out.len]; exact hlt)⟩
            have ox := INV.out.ok x (HPM.out.mem_iff.1 (List.mem_of_getElem? hx))
            obtain ⟨b5, o5, hA5, -, hb5, c5_⟩ := HRW.out.at_ (by omega)
            obtain ⟨b6, o6, hA6, -, hb6, c6_⟩ := HR6.out.at_ (by omega)
            obtain ⟨b7, o7, hA7, -, hb7, c7_⟩ := HR7.out.at_ (by omega)
            have GB := Lib.hid (fun w' (h : Gr wr w') => (show Below w17.heap.size w17 w' from hb.trans (Below.mono h hb.size)))
            have C5 := Lib.hid (fun w' (h : Gr wr w') => (show ∀ j v, (wyL x)[j]? = some v → w'.cell? ⟨b5, o5 + ix * 37 + j, none⟩ = some v from fun j v hv => ((GB.out w' h).cell (p := ⟨b5, o5 + ix * 37 + j, none⟩) (Nat.lt_of_lt_of_le hb5 HRW.out.le)).trans (c5_ ix x hx j v hv)))
            have C6 := Lib.hid (fun w' (h : Gr wr w') => (show ∀ j v, (wyL x)[j]? = some v → w'.cell? ⟨b6, o6 + ix * 37 + j, none⟩ = some v from fun j v hv => ((GB.out w' h).cell (p := ⟨b6, o6 + ix * 37 + j, none⟩) (Nat.lt_of_lt_of_le hb6 HR6.out.le)).trans (c6_ ix x hx j v hv)))
            have C7 := Lib.hid (fun w' (h : Gr wr w') => (show ∀ j v, (wyL x)[j]? = some v → w'.cell? ⟨b7, o7 + ix * 37 + j, none⟩ = some v from fun j v hv => ((GB.out w' h).cell (p := ⟨b7, o7 + ix * 37 + j, none⟩) (Nat.lt_of_lt_of_le hb7 HR7.out.le)).trans (c7_ ix x hx j v hv)))
            have IY := Lib.hid (wyL_info ox)
            have EY := Lib.hid (fun w' => (show (Op.equalIn 10000 35 (.agg (wyL x).toArray) (.agg (wyL x).toArray)).run Try.prog w' = .ok true w' by
              have h := eqW_run ox ox w'
              rwa [eqW_iff.2 rfl] at h))
            have I1 := Lib.hid q8
            have KI := Lib.hid (show (0 : Int) ≤ (ix : Int) by omega)
            have HI := Lib.hid hlt
            subst hA5
            subst hA6
            subst hA7
            generalize wyL x = YC at *
            clear hi hb hlt hx ox hb5 hb6 hb7 c5_ c6_ c7_ GB HRW HR6 HR7
            go_upto_region 28 with fail
            clear q8
            refine with_act fun a0 ha0 => ?_
            have hl : rbT.length = a0.tmps.size := by rw [ha0]; rfl
            have k12 : a0.tmps[12]?.getD undef = .slice (some ⟨b5, o5, none⟩) n5 c5 := by rw [ha0]; rfl
            have k14 : a0.tmps[14]?.getD undef = .slice (some ⟨b6, o6, none⟩) n5 c6 := by rw [ha0]; rfl
            have k15 : a0.tmps[15]?.getD undef = .slice (some ⟨b7, o7, none⟩) n5 c7 := by rw [ha0]; rfl
            have k16 : a0.tmps[16]?.getD undef = .int .i64 ix := by rw [ha0]; rfl
            refine wp_region_vals (by kernel_rfl) rbT (by kernel_rfl) (by kernel_rfl) hl (fun i => a0.tmps[i + 110]?.getD undef) (by rw [ha0]; rfl) (Gr wr) (rbV b5 o5 b6 o6 b7 o7 ix n5 c5 c6 c7 YC) (show Gr _ _ from (Below.refl _ _).drew) (rbV.keep _ _ _ _ _ _ _ _ _ _ _ _) ⟨?_, ?_, ?_, ?_, ?_, ?_, ?_, ?_, ?_, ?_, ?_, ?_, ?_, ?_, ?_, ?_, ?_, ?_, ?_, ?_, trivial⟩ ?_
            · refine step_plain [] (by kernel_rfl) rfl fun us w' hG hV => ?_
              have o12 := (frame_old2 (us := us) (a := a0) (show (rbT[12]?).join = none from rfl)).trans k12
              generalize frame rbT a0 us = fr at *
              exact val_ok (v := .slice (some ⟨b5, o5, none⟩) n5 c5) (w' := w') (by go_simp) hG (Below.refl _ _) rfl
            · refine step_plain [] (by kernel_rfl) rfl fun us w' hG hV => ?_
              have o16 := (frame_old2 (us := us) (a := a0) (show (rbT[16]?).join = none from rfl)).trans k16
              generalize frame rbT a0 us = fr at *
              exact val_ok (v := .int .i64 ix) (w' := w') (by go_simp) hG (Below.refl _ _) rfl
            · refine step_plain [0, 1] (by kernel_rfl) rfl fun us w' hG hV => ?_
              have e0 : us 0 = .slice (some ⟨b5, o5, none⟩) n5 c5 := hV 0 (by simp)
              have v0 := (frame_at2 (us := us) hl (show (rbT[110]?).join = some 0 from rfl)).trans e0
              have e1 : us 1 = .int .i64 ix := hV 1 (by simp)
              have v1 := (frame_at2 (us := us) hl (show (rbT[111]?).join = some 1 from rfl)).trans e1
              have hi := I1.out
              have hk := KI.out
              generalize frame rbT a0 us = fr at *
              exact val_ok (v := .pointer (some ⟨b5, o5 + ix * 37, none⟩)) (w' := w') (by go_simp) hG (Below.refl _ _) rfl
            · refine step_plain [2] (by kernel_rfl) rfl fun us w' hG hV => ?_
              have e2 : us 2 = .pointer (some ⟨b5, o5 + ix * 37, none⟩) := hV 2 (by simp)
              have v2 := (frame_at2 (us := us) hl (show (rbT[112]?).join = some 2 from rfl)).trans e2
              have hg1 := C5.out w' hG
              generalize frame rbT a0 us = fr at *
              exact val_ok (v := .agg YC.toArray) (w' := w') (loadp_runR (s := 112) rfl v2 YC _ hg1 Try.underlying35 rfl IY.out) hG (Below.refl _ _) rfl
            · refine step_plain [] (by kernel_rfl) rfl fun us w' hG hV => ?_
              have o14 := (frame_old2 (us := us) (a := a0) (show (rbT[14]?).join = none from rfl)).trans k14
              generalize frame rbT a0 us = fr at *
              exact val_ok (v := .slice (some ⟨b6, o6, none⟩) n5 c6) (w' := w') (by go_simp) hG (Below.refl _ _) rfl
            · refine step_plain [] (by kernel_rfl) rfl fun us w' hG hV => ?_
              have o16 := (frame_old2 (us := us) (a := a0) (show (rbT[16]?).join = none from rfl)).trans k16
              generalize frame rbT a0 us = fr at *
              exact val_ok (v := .int .i64 ix) (w' := w') (by go_simp) hG (Below.refl _ _) rfl
            · refine step_plain [4, 5] (by kernel_rfl) rfl fun us w' hG hV => ?_
              have e4 : us 4 = .slice (some ⟨b6, o6, none⟩) n5 c6 := hV 4 (by simp)
              have v4 := (frame_at2 (us := us) hl (show (rbT[114]?).join = some 4 from rfl)).trans e4
              have e5 : us 5 = .int .i64 ix := hV 5 (by simp)
              have v5 := (frame_at2 (us := us) hl (show (rbT[115]?).join = some 5 from rfl)).trans e5
              have hi := I1.out
              have hk := KI.out
              generalize frame rbT a0 us = fr at *
              exact val_ok (v := .pointer (some ⟨b6, o6 + ix * 37, none⟩)) (w' := w') (by go_simp) hG (Below.refl _ _) rfl
            · refine step_plain [6] (by kernel_rfl) rfl fun us w' hG hV => ?_
              have e6 : us 6 = .pointer (some ⟨b6, o6 + ix * 37, none⟩) := hV 6 (by simp)
              have v6 := (frame_at2 (us := us) hl (show (rbT[116]?).join = some 6 from rfl)).trans e6
              have hg1 := C6.out w' hG
              generalize frame rbT a0 us = fr at *
              exact val_ok (v := .agg YC.toArray) (w' := w') (loadp_runR (s := 116) rfl v6 YC _ hg1 Try.underlying35 rfl IY.out) hG (Below.refl _ _) rfl
            · refine step_plain [3, 7] (by kernel_rfl) rfl fun us w' hG hV => ?_
              have e3 : us 3 = .agg YC.toArray := hV 3 (by simp)
              have v3 := (frame_at2 (us := us) hl (show (rbT[113]?).join = some 3 from rfl)).trans e3
              have e7 : us 7 = .agg YC.toArray := hV 7 (by simp)
              have v7 := (frame_at2 (us := us) hl (show (rbT[117]?).join = some 7 from rfl)).trans e7
              generalize frame rbT a0 us = fr at *
              exact val_ok (v := .bool false) (w' := w') (ne_run (T := 35) (s := 113) (x := 117) rfl v3 v7 (EY.out _) wy_guard) hG (Below.refl _ _) rfl
            · refine step_plain [8] (by kernel_rfl) rfl fun us w' hG hV => ?_
              have e8 : us 8 = .bool false := hV 8 (by simp)
              have v8 := (frame_at2 (us := us) hl (show (rbT[118]?).join = some 8 from rfl)).trans e8
              generalize frame rbT a0 us = fr at *
              exact val_ok (v := .bool false) (w' := w') (by go_simp) hG (Below.refl _ _) rfl
            · refine step_guard [9] (by kernel_rfl) (j := 9) (t := 119) (b := false) rfl (by simp) rfl hl rfl (fun v w h => h) fun us w' hG hV => ?_
              have o12 := (frame_old2 (us := us) (a := a0) (show (rbT[12]?).join = none from rfl)).trans k12
              generalize frame rbT a0 us = fr at *
              exact val_ok (v := .slice (some ⟨b5, o5, none⟩) n5 c5) (w' := w') (by go_simp) hG (Below.refl _ _) rfl
            · refine step_guard [9] (by kernel_rfl) (j := 9) (t := 119) (b := false) rfl (by simp) rfl hl rfl (fun v w h => h) fun us w' hG hV => ?_
              have o16 := (frame_old2 (us := us) (a := a0) (show (rbT[16]?).join = none from rfl)).trans k16
              generalize frame rbT a0 us = fr at *
              exact val_ok (v := .int .i64 ix) (w' := w') (by go_simp) hG (Below.refl _ _) rfl
            · refine step_guard [9, 10, 11] (by kernel_rfl) (j := 9) (t := 119) (b := false) rfl (by simp) rfl hl rfl (fun v w h => h) fun us w' hG hV => ?_
              have e10 : us 10 = .slice (some ⟨b5, o5, none⟩) n5 c5 := hV 10 (by simp)
              have v10 := (frame_at2 (us := us) hl (show (rbT[120]?).join = some 10 from rfl)).trans e10
              have e11 : us 11 = .int .i64 ix := hV 11 (by simp)
              have v11 := (frame_at2 (us := us) hl (show (rbT[121]?).join = some 11 from rfl)).trans e11
              have hi := I1.out
              have hk := KI.out
              generalize frame rbT a0 us = fr at *
              exact val_ok (v := .pointer (some ⟨b5, o5 + ix * 37, none⟩)) (w' := w') (by go_simp) hG (Below.refl _ _) rfl
            · refine step_guard [9, 12] (by kernel_rfl) (j := 9) (t := 119) (b := false) rfl (by simp) rfl hl rfl (fun v w h => h) fun us w' hG hV => ?_
              have e12 : us 12 = .pointer (some ⟨b5, o5 + ix * 37, none⟩) := hV 12 (by simp)
              have v12 := (frame_at2 (us := us) hl (show (rbT[122]?).join = some 12 from rfl)).trans e12
              have hg1 := C5.out w' hG
              generalize frame rbT a0 us = fr at *
              exact val_ok (v := .agg YC.toArray) (w' := w') (loadp_runR (s := 122) rfl v12 YC _ hg1 Try.underlying35 rfl IY.out) hG (Below.refl _ _) rfl
            · refine step_guard [9] (by kernel_rfl) (j := 9) (t := 119) (b := false) rfl (by simp) rfl hl rfl (fun v w h => h) fun us w' hG hV => ?_
              have o15 := (frame_old2 (us := us) (a := a0) (show (rbT[15]?).join = none from rfl)).trans k15
              generalize frame rbT a0 us = fr at *
              exact val_ok (v := .slice (some ⟨b7, o7, none⟩) n5 c7) (w' := w') (by go_simp) hG (Below.refl _ _) rfl
            · refine step_guard [9] (by kernel_rfl) (j := 9) (t := 119) (b := false) rfl (by simp) rfl hl rfl (fun v w h => h) fun us w' hG hV => ?_
              have o16 := (frame_old2 (us := us) (a := a0) (show (rbT[16]?).join = none from rfl)).trans k16
              generalize frame rbT a0 us = fr at *
              exact val_ok (v := .int .i64 ix) (w' := w') (by go_simp) hG (Below.refl _ _) rfl
            · refine step_guard [9, 14, 15] (by kernel_rfl) (j := 9) (t := 119) (b := false) rfl (by simp) rfl hl rfl (fun v w h => h) fun us w' hG hV => ?_
              have e14 : us 14 = .slice (some ⟨b7, o7, none⟩) n5 c7 := hV 14 (by simp)
              have v14 := (frame_at2 (us := us) hl (show (rbT[124]?).join = some 14 from rfl)).trans e14
              have e15 : us 15 = .int .i64 ix := hV 15 (by simp)
              have v15 := (frame_at2 (us := us) hl (show (rbT[125]?).join = some 15 from rfl)).trans e15
              have hi := I1.out
              have hk := KI.out
              generalize frame rbT a0 us = fr at *
              exact val_ok (v := .pointer (some ⟨b7, o7 + ix * 37, none⟩)) (w' := w') (by go_simp) hG (Below.refl _ _) rfl
            · refine step_guard [9, 16] (by kernel_rfl) (j := 9) (t := 119) (b := false) rfl (by simp) rfl hl rfl (fun v w h => h) fun us w' hG hV => ?_
              have e16 : us 16 = .pointer (some ⟨b7, o7 + ix * 37, none⟩) := hV 16 (by simp)
              have v16 := (frame_at2 (us := us) hl (show (rbT[126]?).join = some 16 from rfl)).trans e16
              have hg1 := C7.out w' hG
              generalize frame rbT a0 us = fr at *
              exact val_ok (v := .agg YC.toArray) (w' := w') (loadp_runR (s := 126) rfl v16 YC _ hg1 Try.underlying35 rfl IY.out) hG (Below.refl _ _) rfl
            · refine step_guard [9, 13, 17] (by kernel_rfl) (j := 9) (t := 119) (b := false) rfl (by simp) rfl hl rfl (fun v w h => h) fun us w' hG hV => ?_
              have e13 : us 13 = .agg YC.toArray := hV 13 (by simp)
              have v13 := (frame_at2 (us := us) hl (show (rbT[123]?).join = some 13 from rfl)).trans e13
              have e17 : us 17 = .agg YC.toArray := hV 17 (by simp)
              have v17 := (frame_at2 (us := us) hl (show (rbT[127]?).join = some 17 from rfl)).trans e17
              generalize frame rbT a0 us = fr at *
              exact val_ok (v := .bool false) (w' := w') (ne_run (T := 35) (s := 123) (x := 127) rfl v13 v17 (EY.out _) wy_guard) hG (Below.refl _ _) rfl
            · refine step_plain [9, 18] (by kernel_rfl) rfl fun us w' hG hV => ?_
              have e9 : us 9 = .bool false := hV 9 (by simp)
              have v9 := (frame_at2 (us := us) hl (show (rbT[119]?).join = some 9 from rfl)).trans e9
              have e18 : us 18 = .bool false := hV 18 (by simp)
              have v18 := (frame_at2 (us := us) hl (show (rbT[128]?).join = some 18 from rfl)).trans e18
              generalize frame rbT a0 us = fr at *
              exact val_ok (v := .bool false) (w' := w') (by go_simp) hG (Below.refl _ _) rfl
            · intro us wz hG hV
              have e9 : us 19 = .bool false := hV 19 (by decide)
              subst ha0
              simp only [frame, rbT, fill]
              rw [e9]
              have HG := Lib.hid hG
              clear hV hl hG e9 EY IY C5 C6 C7 KI I1
              go_wp2_with fail
              go_roundw
              case rel => exact ⟨ix + 1, by simp, by have := HI.out; omega, HBW.out.trans (Below.mono HG.out HBW.out.size)⟩
              case measure => have := HI.out; simp [intOf]; omega
    · have AD := Lib.hid (fun w' S' (hT : Tb w' S' t (stOf ys)) => (show Calls Try.prog 8 #[.pointer (some ⟨t, 0, none⟩), .agg (wyV y)] w' (AddR Tb w' S' t (addE (stOf ys) y) (stOf ys)) by
        have h := AD.out w' S' hT
        rwa [add_not e0] at h))
      obtain ⟨r0, hr0⟩ : ∃ r, r = addE (stOf ys) y := ⟨_, rfl⟩
      rw [← hr0] at AD e0
      have qr : (r0 == 0) = false := by simpa using e0
      clear e0 hr0 ADY DRY
      generalize adrK y.s y.a = KY at *
      generalize y.len = yl at *
      go_upto_region 18 with (first
        | go_skip
        | (refine wpList_load_row rfl 30 (.tmp 3) rfl g3 rfl _ _ _ _ ry.out Try.underlying30 rfl IYY.out ?_)
        | (go_at_call 9; (with_reducible refine (TH.out _).mono ?_); rintro e w13 ⟨rfl, hb⟩
           have UU := Lib.hid (KT.out _ w13 _ _ _ UU.out hb.size (fun k hk => hb.block k (LT.out _ _ _ _ UU.out k hk)))
           have TT := Lib.hid (KT.out _ w13 _ _ _ TT.out hb.size (fun k hk => hb.block k (LT.out _ _ _ _ TT.out k hk)))
           have HRW := Lib.hid (HRW.out.below hb HRW.out.le)
           have BB := Lib.hid (BB.out.trans (hb.mono BB.out.size))
           clear hb)
        | (go_at_call 8; (with_reducible refine (AD.out _ _ TT.out).mono ?_); rintro e w14 ⟨St, rfl, hT, hS, hF⟩
           have HRW2 := Lib.hid (HRW.out.fs hF (fun k h1 h2 hk => (SF.out k hk).2.2 ⟨h1, h2⟩))
           have UU := Lib.hid (KT.out _ w14 _ _ _ UU.out hF.size (fun k hk => hF.block k (LT.out _ _ _ _ UU.out k hk) (fun h => (SF.out k h).2.1 hk)))
           have hb := hF.to_below (fun k hk => (SF.out k hk).1) BB.out.size
           have TT := Lib.hid hT
           have SF := Lib.hid (fun k (h : St k) => (show W.heap.size ≤ k ∧ ¬ Su k ∧ ¬ (p5 ≤ k ∧ k < q5) from (hS k h).elim (SF.out k) (fun h2 => ⟨Nat.le_trans BB.out.size h2, fun h3 => (by have h4 := UL.out k h3; have := HRW.out.le; omega), fun h3 => by have := HRW.out.le; omega⟩)))
           have BB := Lib.hid (BB.out.trans hb)
           have HRW := Lib.hid HRW2.out
           clear hT hS hF hb HRW2
           have cy17 := CY17.out w14 BB.out
           have cy0 := Lib.hid (CY0.out w14 BB.out)))
      clear AD TH ry IYY CY0 CY17 IKY
      have SU := Lib.hid (show ∀ k, Su k → W.heap.size ≤ k ∧ ¬ St k ∧ ¬ (p5 ≤ k ∧ k < q5) from fun k hk => ⟨(UF.out k hk).1, fun h => (SF.out k h).2.1 hk, (UF.out k hk).2⟩)
      go_upto_region 19 with fail
      clear wm
      go_loopw [13] (fun v wr => ∃ (q : Nat) (Sq : Nat → Prop), v = .int .i64 ((q : Int) - 1) ∧ q ≤ i ∧ Tb wr Sq u (stOf (ys.drop q).reverse) ∧ (∀ k, Sq k → W.heap.size ≤ k ∧ ¬ St k ∧ ¬ (p5 ≤ k ∧ k < q5)) ∧ Tb wr St t (stOf ys) ∧ RowW wr p5 q5 A5 n5 l ∧ Below W.heap.size W wr) (fun v _ => (intOf v + 1).toNat)
      case atStart => exact ⟨i, Su, rfl, Nat.le_refl _, by rw [List.drop_of_length_le (by rw [HYL.out]; exact Nat.le_refl _)]; exact UU.out, SU.out, TT.out, HRW.out, BB.out⟩
      case round =>
        obtain ⟨q, Sq, rfl, hq, hU, hSq, hT, hR, hb⟩ := hrel
        have UU := Lib.hid hU
        have SQ := Lib.hid hSq
        have TT := Lib.hid hT
        have HRW := Lib.hid hR
        have BB := Lib.hid hb
        cases q with
        | succ q =>
          rw [show ((q + 1 : Nat) : Int) - 1 = (q : Int) by omega]
          have q6 : (0 : Int) ≤ (q : Int) := by omega
          have q7 : (q : Int) < (i : Int) := by omega
          have wq : IntKind.i64.wrap ((q : Int) - 1) = (q : Int) - 1 := IntWalk.i64_in _ (by have := HM.out; omega)
          obtain ⟨x, hx⟩ : ∃ x, ts[q]? = some x := ⟨_, List.getElem?_eq_getElem (by rw [HP.out.len]; omega)⟩
          have ox := HP.out.ok x (List.mem_of_getElem? hx)
          obtain ⟨b1, o1, hA1, hb1, c1⟩ := HP.out.at_ (by omega)
          have C1 := Lib.hid (show ∀ j v, (wyL x.y)[j]? = some v → wr.cell? ⟨b1, o1 + q * 55 + 1 + j, none⟩ = some v from fun j v hv => by
            rw [Nat.add_assoc (o1 + q * 55) 1 j]
            exact (hb.cell (p := ⟨b1, o1 + q * 55 + (1 + j), none⟩) hb1).trans (c1 q x hx (1 + j) v (Sr.way ox j v hv)))
          have IY := Lib.hid (rwyL_info ox.y)
          have TH := Lib.hid (fun w' => (show Calls Try.prog 9 #[.agg (wyL x.y).toArray] w' (Ret w' (.agg (wyV x.y))) from theirs_any x.y w' ox.y))
          have HRV := Lib.hid (show (ys.drop q).reverse = (ys.drop (q + 1)).reverse ++ [x.y] by
            have h1 : ys[q]? = some x.y := by rw [HYS.out, List.getElem?_map, hx]; rfl
            obtain ⟨h2, h3⟩ := List.getElem?_eq_some_iff.1 h1
            rw [List.drop_eq_getElem_cons h2, List.reverse_cons, h3])
          have AD := Lib.hid (fun w' S' (hT : Tb w' S' u (stOf (ys.drop (q + 1)).reverse)) => ADD.out w' S' u _ x hT (fun z hz => OKY.out z (List.mem_of_mem_drop (List.mem_reverse.1 hz))) ox.y)
          have HQ := Lib.hid (show q ≤ i by omega)
          subst hA1
          generalize wyL x.y = YC at *
          clear hq hU hSq hT hR hb hx ox hb1 c1
          go_wp2_with (first
            | (refine pkC.wpList_load_partG (by kernel_rfl) 30 (.tmp 85) rfl b1 (o1 + q * 55 + 1) (by kernel_rfl) YC _ C1.out Try.underlying30 rfl IY.out ?_)
            | (go_at_call 9; (with_reducible refine (TH.out _).mono ?_); rintro e w13 ⟨rfl, hb⟩
               have UU := Lib.hid (KT.out _ w13 _ _ _ UU.out hb.size (fun k hk => hb.block k (LT.out _ _ _ _ UU.out k hk)))
               have TT := Lib.hid (KT.out _ w13 _ _ _ TT.out hb.size (fun k hk => hb.block k (LT.out _ _ _ _ TT.out k hk)))
               have HRW := Lib.hid (HRW.out.below hb HRW.out.le)
               have BB := Lib.hid (BB.out.trans (hb.mono BB.out.size))
               clear hb)
            | (go_at_call 8; (with_reducible refine (AD.out _ _ UU.out).mono ?_); rintro e w14 ⟨r8, S8, rfl, hT, hS, hF⟩
               have HRW2 := Lib.hid (HRW.out.fs hF (fun k h1 h2 hk => (SQ.out k hk).2.2 ⟨h1, h2⟩))
               have TT2 := Lib.hid (KT.out _ w14 _ _ _ TT.out hF.size (fun k hk => hF.block k (LT.out _ _ _ _ TT.out k hk) (fun h => (SQ.out k h).2.1 hk)))
               have hb := hF.to_below (fun k hk => (SQ.out k hk).1) BB.out.size
               have S8F := Lib.hid (fun k (h : S8 k) => (show W.heap.size ≤ k ∧ ¬ St k ∧ ¬ (p5 ≤ k ∧ k < q5) from (hS k h).elim (SQ.out k) (fun h2 => ⟨Nat.le_trans BB.out.size h2, fun h3 => (by have h4 := LT.out _ _ _ _ TT.out k h3; omega), fun h3 => by have := HRW.out.le; omega⟩)))
               have UU := Lib.hid hT
               have TT := Lib.hid TT2.out
               have BB := Lib.hid (BB.out.trans hb)
               have HRW := Lib.hid HRW2.out
               clear hT hS hF hb HRW2 TT2))
          go_roundw
          case rel => exact ⟨q, S8, rfl, HQ.out, by rw [HRV.out]; exact UU.out, S8F.out, TT.out, HRW.out, BB.out⟩
          case measure => simp [intOf] <;> omega
        | zero =>
          rw [show ((0 : Nat) : Int) - 1 = -1 from rfl]
          rw [List.drop_zero] at UU
          have PRM := Lib.hid (show (stOf ys.reverse).Perm (stOf ys) from stOf_reverse HPY.out (by have := HYL.out; have := HM.out; omega))
          clear hq hU hSq hT hR hb ADD SU SF UF UL UL0
          go_upto_region 23 with (first
            | go_skip
            | (go_at_call 11; (with_reducible refine (ALT.out _ _ TT.out).mono ?_); rintro e w16 ⟨A6, n6, c6, l2, rfl, nc6, cm6, hp, hs, hr, hb⟩
               rw [rows_one INV.out HPM.out hp HSL.out hs] at hr
               have en : n5 = n6 := by rw [← hr.len, ← HRW.out.len]
               subst en
               have HR6 := Lib.hid hr
               have UU := Lib.hid (KT.out _ w16 _ _ _ UU.out hb.size (fun k hk => hb.block k (LT.out _ _ _ _ UU.out k hk)))
               have HRW := Lib.hid (HRW.out.below hb HRW.out.le)
               have BB := Lib.hid (BB.out.trans (hb.mono BB.out.size))
               clear hb hp hs hr nc6 cm6)
            | (go_at_call 11; (with_reducible refine (ALU.out _ _ UU.out).mono ?_); rintro e w17 ⟨A7, n7, c7, l3, rfl, nc7, cm7, hp, hs, hr, hb⟩
               rw [rows_one INV.out HPM.out (hp.trans PRM.out) HSL.out hs] at hr
               have en : n5 = n7 := by rw [← hr.len, ← HRW.out.len]
               subst en
               have HR7 := Lib.hid hr
               have HR6 := Lib.hid (HR6.out.below hb HR6.out.le)
               have HRW := Lib.hid (HRW.out.below hb HRW.out.le)
               have BB := Lib.hid (BB.out.trans (hb.mono BB.out.size))
               clear hb hp hs hr nc7 cm7))
          clear ALT ALU TT UU PRM
          have q5n : ((n5 : Int) != (n5 : Int)) = false := by simp
          go_upto_region 26 with fail
          clear q5n
          go_loopw [107] (fun v wr => ∃ ix : Nat, v = .int .i64 ix ∧ ix ≤ n5 ∧ Below w17.heap.size w17 wr) (fun v _ => n5 + 1 - (intOf v).toNat)
          case atStart => exact ⟨0, rfl, Nat.zero_le _, Below.refl _ _⟩
          case round =>
            obtain ⟨ix, rfl, hi, hb⟩ := hrel
            have HBW := Lib.hid hb
            by_cases hlt : ix < n5
            rotate_left
            · have q8 : ¬ (ix : Int) < (n5 : Int) := by omega
              have BL := Lib.hid (BB.out.trans (hb.mono BB.out.size))
              clear hi hb hlt
              go_wp2_with (first
                | (go_at_call 14; refine (AL.out _).mono ?_; rintro e w19 ⟨rfl, hb⟩
                   have BE := Lib.hid (BL.out.trans (hb.mono BL.out.size))
                   clear hb))
              go_ret
              exact ⟨rfl, HB.out.trans (BE.out.mono HB.out.size)⟩
            have q8 : (ix : Int) < (n5 : Int) := by omega
            have wx : IntKind.i64.wrap ((ix : Int) + 1) = (ix : Int) + 1 := IntWalk.i64_in _ (by have := HC5.out; omega)
            obtain ⟨x, hx⟩ : ∃ x, l[ix]? = some x := ⟨_, List.getElem?_eq_getElem (by rw [HRW.out.len]; exact hlt)⟩
            have ox := INV.out.ok x (HPM.out.mem_iff.1 (List.mem_of_getElem? hx))
            obtain ⟨b5, o5, hA5, -, hb5, c5_⟩ := HRW.out.at_ (by omega)
            obtain ⟨b6, o6, hA6, -, hb6, c6_⟩ := HR6.out.at_ (by omega)
            obtain ⟨b7, o7, hA7, -, hb7, c7_⟩ := HR7.out.at_ (by omega)
            have GB := Lib.hid (fun w' (h : Gr wr w') => (show Below w17.heap.size w17 w' from hb.trans (Below.mono h hb.size)))
            have C5 := Lib.hid (fun w' (h : Gr wr w') => (show ∀ j v, (wyL x)[j]? = some v → w'.cell? ⟨b5, o5 + ix * 37 + j, none⟩ = some v from fun j v hv => ((GB.out w' h).cell (p := ⟨b5, o5 + ix * 37 + j, none⟩) (Nat.lt_of_lt_of_le hb5 HRW.out.le)).trans (c5_ ix x hx j v hv)))
            have C6 := Lib.hid (fun w' (h : Gr wr w') => (show ∀ j v, (wyL x)[j]? = some v → w'.cell? ⟨b6, o6 + ix * 37 + j, none⟩ = some v from fun j v hv => ((GB.out w' h).cell (p := ⟨b6, o6 + ix * 37 + j, none⟩) (Nat.lt_of_lt_of_le hb6 HR6.out.le)).trans (c6_ ix x hx j v hv)))
            have C7 := Lib.hid (fun w' (h : Gr wr w') => (show ∀ j v, (wyL x)[j]? = some v → w'.cell? ⟨b7, o7 + ix * 37 + j, none⟩ = some v from fun j v hv => ((GB.out w' h).cell (p := ⟨b7, o7 + ix * 37 + j, none⟩) (Nat.lt_of_lt_of_le hb7 HR7.out.le)).trans (c7_ ix x hx j v hv)))
            have IY := Lib.hid (wyL_info ox)
            have EY := Lib.hid (fun w' => (show (Op.equalIn 10000 35 (.agg (wyL x).toArray) (.agg (wyL x).toArray)).run Try.prog w' = .ok true w' by
              have h := eqW_run ox ox w'
              rwa [eqW_iff.2 rfl] at h))
            have I1 := Lib.hid q8
            have KI := Lib.hid (show (0 : Int) ≤ (ix : Int) by omega)
            have HI := Lib.hid hlt
            subst hA5
            subst hA6
            subst hA7
            generalize wyL x = YC at *
            clear hi hb hlt hx ox hb5 hb6 hb7 c5_ c6_ c7_ GB HRW HR6 HR7
            go_upto_region 28 with fail
            clear q8
            refine with_act fun a0 ha0 => ?_
            have hl : rbT.length = a0.tmps.size := by rw [ha0]; rfl
            have k12 : a0.tmps[12]?.getD undef = .slice (some ⟨b5, o5, none⟩) n5 c5 := by rw [ha0]; rfl
            have k14 : a0.tmps[14]?.getD undef = .slice (some ⟨b6, o6, none⟩) n5 c6 := by rw [ha0]; rfl
            have k15 : a0.tmps[15]?.getD undef = .slice (some ⟨b7, o7, none⟩) n5 c7 := by rw [ha0]; rfl
            have k16 : a0.tmps[16]?.getD undef = .int .i64 ix := by rw [ha0]; rfl
            refine wp_region_vals (by kernel_rfl) rbT (by kernel_rfl) (by kernel_rfl) hl (fun i => a0.tmps[i + 110]?.getD undef) (by rw [ha0]; rfl) (Gr wr) (rbV b5 o5 b6 o6 b7 o7 ix n5 c5 c6 c7 YC) (show Gr _ _ from (Below.refl _ _).drew) (rbV.keep _ _ _ _ _ _ _ _ _ _ _ _) ⟨?_, ?_, ?_, ?_, ?_, ?_, ?_, ?_, ?_, ?_, ?_, ?_, ?_, ?_, ?_, ?_, ?_, ?_, ?_, ?_, trivial⟩ ?_
            · refine step_plain [] (by kernel_rfl) rfl fun us w' hG hV => ?_
              have o12 := (frame_old2 (us := us) (a := a0) (show (rbT[12]?).join = none from rfl)).trans k12
              generalize frame rbT a0 us = fr at *
              exact val_ok (v := .slice (some ⟨b5, o5, none⟩) n5 c5) (w' := w') (by go_simp) hG (Below.refl _ _) rfl
            · refine step_plain [] (by kernel_rfl) rfl fun us w' hG hV => ?_
              have o16 := (frame_old2 (us := us) (a := a0) (show (rbT[16]?).join = none from rfl)).trans k16
              generalize frame rbT a0 us = fr at *
              exact val_ok (v := .int .i64 ix) (w' := w') (by go_simp) hG (Below.refl _ _) rfl
            · refine step_plain [0, 1] (by kernel_rfl) rfl fun us w' hG hV => ?_
              have e0 : us 0 = .slice (some ⟨b5, o5, none⟩) n5 c5 := hV 0 (by simp)
              have v0 := (frame_at2 (us := us) hl (show (rbT[110]?).join = some 0 from rfl)).trans e0
              have e1 : us 1 = .int .i64 ix := hV 1 (by simp)
              have v1 := (frame_at2 (us := us) hl (show (rbT[111]?).join = some 1 from rfl)).trans e1
              have hi := I1.out
              have hk := KI.out
              generalize frame rbT a0 us = fr at *
              exact val_ok (v := .pointer (some ⟨b5, o5 + ix * 37, none⟩)) (w' := w') (by go_simp) hG (Below.refl _ _) rfl
            · refine step_plain [2] (by kernel_rfl) rfl fun us w' hG hV => ?_
              have e2 : us 2 = .pointer (some ⟨b5, o5 + ix * 37, none⟩) := hV 2 (by simp)
              have v2 := (frame_at2 (us := us) hl (show (rbT[112]?).join = some 2 from rfl)).trans e2
              have hg1 := C5.out w' hG
              generalize frame rbT a0 us = fr at *
              exact val_ok (v := .agg YC.toArray) (w' := w') (loadp_runR (s := 112) rfl v2 YC _ hg1 Try.underlying35 rfl IY.out) hG (Below.refl _ _) rfl
            · refine step_plain [] (by kernel_rfl) rfl fun us w' hG hV => ?_
              have o14 := (frame_old2 (us := us) (a := a0) (show (rbT[14]?).join = none from rfl)).trans k14
              generalize frame rbT a0 us = fr at *
              exact val_ok (v := .slice (some ⟨b6, o6, none⟩) n5 c6) (w' := w') (by go_simp) hG (Below.refl _ _) rfl
            · refine step_plain [] (by kernel_rfl) rfl fun us w' hG hV => ?_
              have o16 := (frame_old2 (us := us) (a := a0) (show (rbT[16]?).join = none from rfl)).trans k16
              generalize frame rbT a0 us = fr at *
              exact val_ok (v := .int .i64 ix) (w' := w') (by go_simp) hG (Below.refl _ _) rfl
            · refine step_plain [4, 5] (by kernel_rfl) rfl fun us w' hG hV => ?_
              have e4 : us 4 = .slice (some ⟨b6, o6, none⟩) n5 c6 := hV 4 (by simp)
              have v4 := (frame_at2 (us := us) hl (show (rbT[114]?).join = some 4 from rfl)).trans e4
              have e5 : us 5 = .int .i64 ix := hV 5 (by simp)
              have v5 := (frame_at2 (us := us) hl (show (rbT[115]?).join = some 5 from rfl)).trans e5
              have hi := I1.out
              have hk := KI.out
              generalize frame rbT a0 us = fr at *
              exact val_ok (v := .pointer (some ⟨b6, o6 + ix * 37, none⟩)) (w' := w') (by go_simp) hG (Below.refl _ _) rfl
            · refine step_plain [6] (by kernel_rfl) rfl fun us w' hG hV => ?_
              have e6 : us 6 = .pointer (some ⟨b6, o6 + ix * 37, none⟩) := hV 6 (by simp)
              have v6 := (frame_at2 (us := us) hl (show (rbT[116]?).join = some 6 from rfl)).trans e6
              have hg1 := C6.out w' hG
              generalize frame rbT a0 us = fr at *
              exact val_ok (v := .agg YC.toArray) (w' := w') (loadp_runR (s := 116) rfl v6 YC _ hg1 Try.underlying35 rfl IY.out) hG (Below.refl _ _) rfl
            · refine step_plain [3, 7] (by kernel_rfl) rfl fun us w' hG hV => ?_
              have e3 : us 3 = .agg YC.toArray := hV 3 (by simp)
              have v3 := (frame_at2 (us := us) hl (show (rbT[113]?).join = some 3 from rfl)).trans e3
              have e7 : us 7 = .agg YC.toArray := hV 7 (by simp)
              have v7 := (frame_at2 (us := us) hl (show (rbT[117]?).join = some 7 from rfl)).trans e7
              generalize frame rbT a0 us = fr at *
              exact val_ok (v := .bool false) (w' := w') (ne_run (T := 35) (s := 113) (x := 117) rfl v3 v7 (EY.out _) wy_guard) hG (Below.refl _ _) rfl
            · refine step_plain [8] (by kernel_rfl) rfl fun us w' hG hV => ?_
              have e8 : us 8 = .bool false := hV 8 (by simp)
              have v8 := (frame_at2 (us := us) hl (show (rbT[118]?).join = some 8 from rfl)).trans e8
              generalize frame rbT a0 us = fr at *
              exact val_ok (v := .bool false) (w' := w') (by go_simp) hG (Below.refl _ _) rfl
            · refine step_guard [9] (by kernel_rfl) (j := 9) (t := 119) (b := false) rfl (by simp) rfl hl rfl (fun v w h => h) fun us w' hG hV => ?_
              have o12 := (frame_old2 (us := us) (a := a0) (show (rbT[12]?).join = none from rfl)).trans k12
              generalize frame rbT a0 us = fr at *
              exact val_ok (v := .slice (some ⟨b5, o5, none⟩) n5 c5) (w' := w') (by go_simp) hG (Below.refl _ _) rfl
            · refine step_guard [9] (by kernel_rfl) (j := 9) (t := 119) (b := false) rfl (by simp) rfl hl rfl (fun v w h => h) fun us w' hG hV => ?_
              have o16 := (frame_old2 (us := us) (a := a0) (show (rbT[16]?).join = none from rfl)).trans k16
              generalize frame rbT a0 us = fr at *
              exact val_ok (v := .int .i64 ix) (w' := w') (by go_simp) hG (Below.refl _ _) rfl
            · refine step_guard [9, 10, 11] (by kernel_rfl) (j := 9) (t := 119) (b := false) rfl (by simp) rfl hl rfl (fun v w h => h) fun us w' hG hV => ?_
              have e10 : us 10 = .slice (some ⟨b5, o5, none⟩) n5 c5 := hV 10 (by simp)
              have v10 := (frame_at2 (us := us) hl (show (rbT[120]?).join = some 10 from rfl)).trans e10
              have e11 : us 11 = .int .i64 ix := hV 11 (by simp)
              have v11 := (frame_at2 (us := us) hl (show (rbT[121]?).join = some 11 from rfl)).trans e11
              have hi := I1.out
              have hk := KI.out
              generalize frame rbT a0 us = fr at *
              exact val_ok (v := .pointer (some ⟨b5, o5 + ix * 37, none⟩)) (w' := w') (by go_simp) hG (Below.refl _ _) rfl
            · refine step_guard [9, 12] (by kernel_rfl) (j := 9) (t := 119) (b := false) rfl (by simp) rfl hl rfl (fun v w h => h) fun us w' hG hV => ?_
              have e12 : us 12 = .pointer (some ⟨b5, o5 + ix * 37, none⟩) := hV 12 (by simp)
              have v12 := (frame_at2 (us := us) hl (show (rbT[122]?).join = some 12 from rfl)).trans e12
              have hg1 := C5.out w' hG
              generalize frame rbT a0 us = fr at *
              exact val_ok (v := .agg YC.toArray) (w' := w') (loadp_runR (s := 122) rfl v12 YC _ hg1 Try.underlying35 rfl IY.out) hG (Below.refl _ _) rfl
            · refine step_guard [9] (by kernel_rfl) (j := 9) (t := 119) (b := false) rfl (by simp) rfl hl rfl (fun v w h => h) fun us w' hG hV => ?_
              have o15 := (frame_old2 (us := us) (a := a0) (show (rbT[15]?).join = none from rfl)).trans k15
              generalize frame rbT a0 us = fr at *
              exact val_ok (v := .slice (some ⟨b7, o7, none⟩) n5 c7) (w' := w') (by go_simp) hG (Below.refl _ _) rfl
            · refine step_guard [9] (by kernel_rfl) (j := 9) (t := 119) (b := false) rfl (by simp) rfl hl rfl (fun v w h => h) fun us w' hG hV => ?_
              have o16 := (frame_old2 (us := us) (a := a0) (show (rbT[16]?).join = none from rfl)).trans k16
              generalize frame rbT a0 us = fr at *
              exact val_ok (v := .int .i64 ix) (w' := w') (by go_simp) hG (Below.refl _ _) rfl
            · refine step_guard [9, 14, 15] (by kernel_rfl) (j := 9) (t := 119) (b := false) rfl (by simp) rfl hl rfl (fun v w h => h) fun us w' hG hV => ?_
              have e14 : us 14 = .slice (some ⟨b7, o7, none⟩) n5 c7 := hV 14 (by simp)
              have v14 := (frame_at2 (us := us) hl (show (rbT[124]?).join = some 14 from rfl)).trans e14
              have e15 : us 15 = .int .i64 ix := hV 15 (by simp)
              have v15 := (frame_at2 (us := us) hl (show (rbT[125]?).join = some 15 from rfl)).trans e15
              have hi := I1.out
              have hk := KI.out
              generalize frame rbT a0 us = fr at *
              exact val_ok (v := .pointer (some ⟨b7, o7 + ix * 37, none⟩)) (w' := w') (by go_simp) hG (Below.refl _ _) rfl
            · refine step_guard [9, 16] (by kernel_rfl) (j := 9) (t := 119) (b := false) rfl (by simp) rfl hl rfl (fun v w h => h) fun us w' hG hV => ?_
              have e16 : us 16 = .pointer (some ⟨b7, o7 + ix * 37, none⟩) := hV 16 (by simp)
              have v16 := (frame_at2 (us := us) hl (show (rbT[126]?).join = some 16 from rfl)).trans e16
              have hg1 := C7.out w' hG
              generalize frame rbT a0 us = fr at *
              exact val_ok (v := .agg YC.toArray) (w' := w') (loadp_runR (s := 126) rfl v16 YC _ hg1 Try.underlying35 rfl IY.out) hG (Below.refl _ _) rfl
            · refine step_guard [9, 13, 17] (by kernel_rfl) (j := 9) (t := 119) (b := false) rfl (by simp) rfl hl rfl (fun v w h => h) fun us w' hG hV => ?_
              have e13 : us 13 = .agg YC.toArray := hV 13 (by simp)
              have v13 := (frame_at2 (us := us) hl (show (rbT[123]?).join = some 13 from rfl)).trans e13
              have e17 : us 17 = .agg YC.toArray := hV 17 (by simp)
              have v17 := (frame_at2 (us := us) hl (show (rbT[127]?).join = some 17 from rfl)).trans e17
              generalize frame rbT a0 us = fr at *
              exact val_ok (v := .bool false) (w' := w') (ne_run (T := 35) (s := 123) (x := 127) rfl v13 v17 (EY.out _) wy_guard) hG (Below.refl _ _) rfl
            · refine step_plain [9, 18] (by kernel_rfl) rfl fun us w' hG hV => ?_
              have e9 : us 9 = .bool false := hV 9 (by simp)
              have v9 := (frame_at2 (us := us) hl (show (rbT[119]?).join = some 9 from rfl)).trans e9
              have e18 : us 18 = .bool false := hV 18 (by simp)
              have v18 := (frame_at2 (us := us) hl (show (rbT[128]?).join = some 18 from rfl)).trans e18
              generalize frame rbT a0 us = fr at *
              exact val_ok (v := .bool false) (w' := w') (by go_simp) hG (Below.refl _ _) rfl
            · intro us wz hG hV
              have e9 : us 19 = .bool false := hV 19 (by decide)
              subst ha0
              simp only [frame, rbT, fill]
              rw [e9]
              have HG := Lib.hid hG
              clear hV hl hG e9 EY IY C5 C6 C7 KI I1
              go_wp2_with fail
              go_roundw
              case rel => exact ⟨ix + 1, by simp, by have := HI.out; omega, HBW.out.trans (Below.mono HG.out HBW.out.size)⟩
              case measure => have := HI.out; simp [intOf]; omega
end Go.Proofs.Ytjdenhkicikfkaa.rtC
