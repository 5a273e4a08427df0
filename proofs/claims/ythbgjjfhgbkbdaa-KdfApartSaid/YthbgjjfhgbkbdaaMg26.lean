/-
  1 texts of a proof, joined.
-/
import Derived.Test.YthbgjjfhgbkbdaaMg25

/-
  Traffic keys: the walk of KdfTurned.
-/
namespace Go.Proofs.Ythbgjjfhgbkbdaa.kdC
open Go.ChangeShapes Go.WideShapes Go.ChangeAt Go.RowKit
open Go.Proofs.Ythbgjjfhgbkbdaa.memC Go.Proofs.Ythbgjjfhgbkbdaa.genC Go.Proofs.Ythbgjjfhgbkbdaa.aesM Go.Proofs.Ythbgjjfhgbkbdaa.aesC Go.Proofs.Ythbgjjfhgbkbdaa.butC Go.Proofs.Ythbgjjfhgbkbdaa.freeC Go.Proofs.Ythbgjjfhgbkbdaa.partsC
set_option linter.unusedVariables false
theorem strOf_append (xs ys : List Int) : strOfNums xs ++ strOfNums ys = strOfNums (xs ++ ys) := by
  apply ByteArray.ext
  unfold strOfNums
  rw [ByteArray.data_append]
  simp
/-- b[f:e] -/
theorem cut_mid (A : Option Addr) (n c f e : Nat) (fz ez : Int) (hf : (f : Int) = fz) (he : (e : Int) = ez) (h1 : f ≤ e) (h2 : e ≤ c) (w : World) :
    (Instr.slice 22 (.slice A n c) (some (.int .i64 fz)) (some (.int .i64 ez)) none).run Try.prog w = .ok (.slice (if c = f then A else A.map (·.add f)) (e - f) (c - f)) w := by
  subst hf he
  have k1 : (f : Int) ≤ (e : Int) := by omega
  have k2 : (e : Int) ≤ (c : Int) := by omega
  by_cases h : c = f
  · subst h
    rw [if_pos rfl]
    go_simp
  · rw [if_neg h]
    go_simp
/-- b[:e] -/
theorem cut_to (A : Option Addr) (n c e : Nat) (ez : Int) (he : (e : Int) = ez) (h2 : e ≤ c) (w : World) :
    (Instr.slice 22 (.slice A n c) none (some (.int .i64 ez)) none).run Try.prog w = .ok (.slice A e c) w := by
  subst he
  have k2 : (e : Int) ≤ (c : Int) := by omega
  go_simp
/-- b[f:] -/
theorem cut_end (A : Option Addr) (n c f : Nat) (fz : Int) (hf : (f : Int) = fz) (h1 : f ≤ n) (h2 : n ≤ c) (w : World) :
    (Instr.slice 22 (.slice A n c) (some (.int .i64 fz)) none none).run Try.prog w = .ok (.slice (if c = f then A else A.map (·.add f)) (n - f) (c - f)) w := by
  subst hf
  have k1 : (f : Int) ≤ (n : Int) := by omega
  by_cases h : c = f
  · subst h
    rw [if_pos rfl]
    go_simp
  · rw [if_neg h]
    go_simp
theorem key_piece {w : World} {A : Option Addr} {n c : Nat} {T : List Int} (K : Key w A n c T) (f e : Nat) (h1 : f ≤ e) (h2 : e ≤ n) {x : List Int} (hx : (T.drop f).take (e - f) = x) : Key w (if c = f then A else A.map (·.add f)) (e - f) (c - f) x := by
  have hc := K.cap
  have hm := K.max
  refine ⟨?_, fun y hy => ?_, by omega, by omega⟩
  · rw [← hx]
    exact (K.nums.cut (by omega) K.cap).upto (by omega)
  · rw [← hx] at hy
    exact K.byte y (List.mem_of_mem_drop (List.mem_of_mem_take hy))
theorem key_front {w : World} {A : Option Addr} {n c : Nat} {T : List Int} (K : Key w A n c T) (e : Nat) (h2 : e ≤ n) {x : List Int} (hx : T.take e = x) : Key w A e c x :=
  ⟨by rw [← hx]; exact K.nums.upto h2, fun y hy => by rw [← hx] at hy; exact K.byte y (List.mem_of_mem_take hy), by have := K.cap; omega, K.max⟩
theorem cut_at {T pre x post : List Int} {f k : Nat} (h : T = pre ++ (x ++ post)) (hp : pre.length = f) (hx : x.length = k) : (T.drop f).take k = x := by
  rw [h, List.drop_left' hp, List.take_left' hx]
theorem ctxL_is (s : Bool) (b1 b2 : List Int) (p1 p2 i1 i2 : Int) : ctxL s b1 b2 p1 p2 i1 i2 = adrL s b1 ++ (adrL s b2 ++ (octC.numL 2 p1 ++ (octC.numL 2 p2 ++ (octC.numL 4 i1 ++ octC.numL 4 i2)))) := by
  simp [ctxL, octC.putL]
theorem two_nil {w w' : World} {e : Ending} {er : Int} (h : TwoRet w [] er e w') : ∃ A c, e = .returned (.tuple #[.slice A 0 c, .int .i64 er]) ∧ Below w.heap.size w w' := by
  obtain ⟨A, n, c, h1, h2, h3⟩ := h
  have : n = 0 := by rw [← h2.nums.len]; rfl
  subst this
  exact ⟨A, c, h1, h3⟩
theorem two_len {w w' : World} {e : Ending} {er : Int} {T : List Int} {N : Nat} (h : TwoRet w T er e w') (hN : T.length = N) : ∃ A c, e = .returned (.tuple #[.slice A N c, .int .i64 er]) ∧ Key w' A N c T ∧ Below w.heap.size w w' := by
  obtain ⟨A, n, c, h1, h2, h3⟩ := h
  have : n = N := by rw [← h2.nums.len, hN]
  subst this
  exact ⟨A, c, h1, h2, h3⟩
theorem ctxL_len {s : Bool} {b1 b2 : List Int} (p1 p2 i1 i2 : Int) (h1 : b1.length = 16) (h2 : b2.length = 16) : (ctxL s b1 b2 p1 p2 i1 i2).length = 2 * adrN s + 12 := by
  rw [ctxL_is]
  simp only [List.length_append, adrL_len h1, adrL_len h2, octC.numL_len]; omega
set_option maxRecDepth 100000 in
set_option maxHeartbeats 1000000 in
theorem turned_unlike (cs C1 C2 : Array Value) (s1 s2 : Bool) (b1 b2 : List Int) (p1 p2 i1 i2 : Int) (w : World) (hp : PairC cs C1 C2) (h1 : EndC C1 s1 b1 p1) (h2 : EndC C2 s2 b2 p2) (hs : s1 ≠ s2) :
    Calls Try.prog 6 #[.agg cs, .int .u32 i1, .int .u32 i2] w (AliveRet w) := by
  have KA := Lib.hid (fun w' => (ctx_unlike C1 C2 s1 s2 b1 b2 p1 p2 i1 i2 w' h1 h2 hs).mono fun e w2 h => two_nil h)
  have KB := Lib.hid (fun w' => (ctx_unlike C2 C1 s2 s1 b2 b1 p2 p1 i2 i1 w' h2 h1 hs.symm).mono fun e w2 h => two_nil h)
  obtain ⟨W, hW⟩ : ∃ W, W = w.alloc (.cells cs 39) := ⟨_, rfl⟩
  have G : W.heap[w.heap.size]? = some (.cells cs 39 (0, 0)) := by rw [hW]; exact heap_alloc_new w _
  have BW := Lib.hid (show Below w.heap.size w W by rw [hW]; exact alloc_below _ _)
  have U1 := Lib.hid (show (Try.prog.info? 37).map (·.size) = some C1.size by rw [end_info, hp.z1])
  have U2 := Lib.hid (show (Try.prog.info? 37).map (·.size) = some C2.size by rw [end_info, hp.z2])
  have CL1 := Lib.hid (fun (w' : World) (hG : Gr W w') (j : Nat) (v : Value) (hv : C1[j]? = some v) => (show w'.cell? ⟨w.heap.size, 0 + j, none⟩ = some v by rw [cell_of_row w' _ _ _ _ (0, 0) (hG.row G)]; exact hp.c1 j v hv))
  have CL2 := Lib.hid (fun (w' : World) (hG : Gr W w') (j : Nat) (v : Value) (hv : C2[j]? = some v) => (show w'.cell? ⟨w.heap.size, 18 + j, none⟩ = some v by rw [cell_of_row w' _ _ _ _ (0, 0) (hG.row G)]; exact hp.c2 j v hv))
  have D1 := Lib.hid (CL1.out W (Below.refl _ _))
  have D2 := Lib.hid (CL2.out W (Below.refl _ _))
  clear h1 h2 hp G hs
  go_enter Try.func6, Try.ntmps6
  go_upto_region 1 with fail
  rw [← hW]
  clear hW
  go_upto_region 2 with (first
    | (refine wpList_load_piece rfl 37 (.tmp 14) rfl w.heap.size 0 rfl C1 _ D1.out Try.underlying37 rfl U1.out ?_)
    | (refine wpList_load_piece rfl 37 (.tmp 16) rfl w.heap.size 18 rfl C2 _ D2.out Try.underlying37 rfl U2.out ?_)
    | (go_at_call 15; (with_reducible refine (KA.out _).mono ?_); rintro e w1 ⟨A3, c3, rfl, B3⟩))
  have HB3 := Lib.hid (BW.out.trans (B3.mono BW.out.size))
  have D3 := Lib.hid (CL1.out w1 B3)
  have D4 := Lib.hid (CL2.out w1 B3)
  clear B3 KA
  go_upto_region 3 with (first
    | (refine wpList_load_piece rfl 37 (.tmp 24) rfl w.heap.size 18 rfl C2 _ D4.out Try.underlying37 rfl U2.out ?_)
    | (refine wpList_load_piece rfl 37 (.tmp 26) rfl w.heap.size 0 rfl C1 _ D3.out Try.underlying37 rfl U1.out ?_)
    | (go_at_call 15; (with_reducible refine (KB.out _).mono ?_); rintro e w2 ⟨A4, c4, rfl, B4⟩
       have HB4 := Lib.hid (HB3.out.trans (B4.mono HB3.out.size))))
  clear B4 KB
  go_wp2_with (first
    | (go_at_call 10; refine (alive_any _).mono ?_; rintro e w9 ⟨rfl, B9⟩))
  go_ret
  exact ⟨rfl, HB4.out.trans (B9.mono HB4.out.size)⟩
def TuFV (B X1 X3 X4 X5 X6 : Option Addr) (c d1 d3 d4 d5 d6 : Nat) (S1 S2 S3 S4 S5 S6 : ByteArray) : Nat → Value → World → Prop
  | 0, v, _ => v = .slice B 20 c
  | 1, v, _ => v = .int .i64 4
  | 2, v, _ => v = .int .i64 4
  | 3, v, _ => v = .int .i64 8
  | 4, v, _ => v = .slice X1 4 d1
  | 5, v, _ => v = .string S1
  | 6, v, _ => v = .slice B 20 c
  | 7, v, _ => v = .int .i64 4
  | 8, v, _ => v = .slice B 4 c
  | 9, v, _ => v = .string S2
  | 10, v, _ => v = .string (S1 ++ S2)
  | 11, v, _ => v = .slice B 20 c
  | 12, v, _ => v = .int .i64 4
  | 13, v, _ => v = .int .i64 8
  | 14, v, _ => v = .int .i64 10
  | 15, v, _ => v = .int .i64 4
  | 16, v, _ => v = .int .i64 8
  | 17, v, _ => v = .int .i64 12
  | 18, v, _ => v = .slice X3 2 d3
  | 19, v, _ => v = .string S3
  | 20, v, _ => v = .string (S1 ++ S2 ++ S3)
  | 21, v, _ => v = .slice B 20 c
  | 22, v, _ => v = .int .i64 4
  | 23, v, _ => v = .int .i64 8
  | 24, v, _ => v = .int .i64 4
  | 25, v, _ => v = .int .i64 8
  | 26, v, _ => v = .int .i64 10
  | 27, v, _ => v = .slice X4 2 d4
  | 28, v, _ => v = .string S4
  | 29, v, _ => v = .string (S1 ++ S2 ++ S3 ++ S4)
  | 30, v, _ => v = .slice B 20 c
  | 31, v, _ => v = .int .i64 4
  | 32, v, _ => v = .int .i64 8
  | 33, v, _ => v = .int .i64 16
  | 34, v, _ => v = .slice X5 4 d5
  | 35, v, _ => v = .string S5
  | 36, v, _ => v = .string (S1 ++ S2 ++ S3 ++ S4 ++ S5)
  | 37, v, _ => v = .slice B 20 c
  | 38, v, _ => v = .int .i64 4
  | 39, v, _ => v = .int .i64 8
  | 40, v, _ => v = .int .i64 12
  | 41, v, _ => v = .int .i64 4
  | 42, v, _ => v = .int .i64 8
  | 43, v, _ => v = .int .i64 16
  | 44, v, _ => v = .slice X6 4 d6
  | 45, v, _ => v = .string S6
  | 46, v, _ => v = .string (S1 ++ S2 ++ S3 ++ S4 ++ S5 ++ S6)
  | 47, v, _ => v = .string (S1 ++ S2 ++ S3 ++ S4 ++ S5 ++ S6)
  | _, _, _ => True
theorem TuFV.keep (B X1 X3 X4 X5 X6 : Option Addr) (c d1 d3 d4 d5 d6 : Nat) (S1 S2 S3 S4 S5 S6 : ByteArray) (i : Nat) (v : Value) (w w' : World) (hb : Below w.heap.size w w') (h : TuFV B X1 X3 X4 X5 X6 c d1 d3 d4 d5 d6 S1 S2 S3 S4 S5 S6 i v w) : TuFV B X1 X3 X4 X5 X6 c d1 d3 d4 d5 d6 S1 S2 S3 S4 S5 S6 i v w' := by
  unfold TuFV at h ⊢
  split at h <;> exact h
def TuFT : List (Option Nat) := [none, none, none, none, none, none, none, none, none, none, none, none, some 47, none, none, none, none, none, none, none, none, none, none, none, none, none, none, none, none, none, none, none, none, none, none, none, none, none, none, none, none, none, none, none, none, none, none, none, none, none, none, none, none, none, none, none, none, none, none, none, none, none, none, none, none, none, none, none, none, none, some 0, some 1, some 2, some 3, some 4, some 5, some 6, some 7, some 8, some 9, some 10, some 11, some 12, some 13, some 14, some 15, some 16, some 17, some 18, some 19, some 20, some 21, some 22, some 23, some 24, some 25, some 26, some 27, some 28, some 29, some 30, some 31, some 32, some 33, some 34, some 35, some 36, some 37, some 38, some 39, some 40, some 41, some 42, some 43, some 44, some 45, some 46, none, none, none, none, none, none, none]
set_option maxRecDepth 100000 in
set_option maxHeartbeats 2000000 in
theorem turned_four (cs C1 C2 : Array Value) (b1 b2 : List Int) (p1 p2 i1 i2 : Int) (w : World) (hp : PairC cs C1 C2) (h1 : EndC C1 false b1 p1) (h2 : EndC C2 false b2 p2) (l1 : 0 ≤ i1) (m1 : i1 ≤ 4294967295) (l2 : 0 ≤ i2) (m2 : i2 ≤ 4294967295) :
    Calls Try.prog 6 #[.agg cs, .int .u32 i1, .int .u32 i2] w (AliveRet w) := by
  obtain ⟨T1, hT1⟩ : ∃ T, T = ctxL false b1 b2 p1 p2 i1 i2 := ⟨_, rfl⟩
  obtain ⟨T2, hT2⟩ : ∃ T, T = ctxL false b2 b1 p2 p1 i2 i1 := ⟨_, rfl⟩
  have KA := Lib.hid (fun w' => (ctx_same C1 C2 false b1 b2 p1 p2 i1 i2 w' h1 h2 l1 m1 l2 m2).mono fun e w2 h => two_len (N := 20) h (by rw [ctxL_len _ _ _ _ h1.len h2.len]; rfl))
  have KB := Lib.hid (fun w' => (ctx_same C2 C1 false b2 b1 p2 p1 i2 i1 w' h2 h1 l2 m2 l1 m1).mono fun e w2 h => two_len (N := 20) h (by rw [ctxL_len _ _ _ _ h2.len h1.len]; rfl))
  rw [← hT1] at KA
  rw [← hT2] at KB
  have q1 := adrL_len (six := false) h1.len
  have q2 := adrL_len (six := false) h2.len
  rw [ctxL_is] at hT1 hT2
  generalize adrL false b1 = M1 at *
  generalize adrL false b2 = M2 at *
  have r1 := octC.numL_len 2 p1
  have r2 := octC.numL_len 2 p2
  have r3 := octC.numL_len 4 i1
  have r4 := octC.numL_len 4 i2
  generalize octC.numL 2 p1 = P1 at *
  generalize octC.numL 2 p2 = P2 at *
  generalize octC.numL 4 i1 = I1 at *
  generalize octC.numL 4 i2 = I2 at *
  have q1 : M1.length = 4 := q1
  have q2 : M2.length = 4 := q2
  have x1 : (T2.drop 4).take (8 - 4) = M1 := cut_at (pre := M2) (post := P2 ++ (P1 ++ (I2 ++ I1))) hT2 q2 q1
  have x2 : T2.take 4 = M2 := by rw [hT2, List.take_left' q2]
  have x3 : (T2.drop 10).take (12 - 10) = P1 := cut_at (pre := M2 ++ (M1 ++ P2)) (post := I2 ++ I1) (by rw [hT2]; simp) (by simp [q1, q2, r2]) r1
  have x4 : (T2.drop 8).take (10 - 8) = P2 := cut_at (pre := M2 ++ M1) (post := P1 ++ (I2 ++ I1)) (by rw [hT2]; simp) (by simp [q1, q2]) r2
  have x5 : (T2.drop 16).take (20 - 16) = I1 := cut_at (pre := M2 ++ (M1 ++ (P2 ++ (P1 ++ I2)))) (post := []) (by rw [hT2]; simp) (by simp [q1, q2, r1, r2, r4]) r3
  have x6 : (T2.drop 12).take (16 - 12) = I2 := cut_at (pre := M2 ++ (M1 ++ (P2 ++ P1))) (post := I1) (by rw [hT2]; simp) (by simp [q1, q2, r1, r2]) r4
  obtain ⟨S1, hS1⟩ : ∃ S, S = strOfNums M1 := ⟨_, rfl⟩
  obtain ⟨S2, hS2⟩ : ∃ S, S = strOfNums M2 := ⟨_, rfl⟩
  obtain ⟨S3, hS3⟩ : ∃ S, S = strOfNums P1 := ⟨_, rfl⟩
  obtain ⟨S4, hS4⟩ : ∃ S, S = strOfNums P2 := ⟨_, rfl⟩
  obtain ⟨S5, hS5⟩ : ∃ S, S = strOfNums I1 := ⟨_, rfl⟩
  obtain ⟨S6, hS6⟩ : ∃ S, S = strOfNums I2 := ⟨_, rfl⟩
  obtain ⟨U, hU⟩ : ∃ U, U = strOfNums T1 := ⟨_, rfl⟩
  have HS := Lib.hid (show S1 ++ S2 ++ S3 ++ S4 ++ S5 ++ S6 = U by rw [hS1, hS2, hS3, hS4, hS5, hS6, hU, strOf_append, strOf_append, strOf_append, strOf_append, strOf_append, hT1]; simp)
  have N1 := Lib.hid (show S1.size = 4 by rw [hS1, strOfNums_size]; exact q1)
  have N2 := Lib.hid (show S2.size = 4 by rw [hS2, strOfNums_size]; exact q2)
  have N3 := Lib.hid (show S3.size = 2 by rw [hS3, strOfNums_size]; exact r1)
  have N4 := Lib.hid (show S4.size = 2 by rw [hS4, strOfNums_size]; exact r2)
  have N5 := Lib.hid (show S5.size = 4 by rw [hS5, strOfNums_size]; exact r3)
  have N6 := Lib.hid (show S6.size = 4 by rw [hS6, strOfNums_size]; exact r4)
  have X1 := Lib.hid x1; have X2 := Lib.hid x2; have X3 := Lib.hid x3; have X4 := Lib.hid x4; have X5 := Lib.hid x5; have X6 := Lib.hid x6
  have E1 := Lib.hid hS1; have E2 := Lib.hid hS2; have E3 := Lib.hid hS3; have E4 := Lib.hid hS4; have E5 := Lib.hid hS5; have E6 := Lib.hid hS6; have EU := Lib.hid hU
  obtain ⟨W, hW⟩ : ∃ W, W = w.alloc (.cells cs 39) := ⟨_, rfl⟩
  have G : W.heap[w.heap.size]? = some (.cells cs 39 (0, 0)) := by rw [hW]; exact heap_alloc_new w _
  have BW := Lib.hid (show Below w.heap.size w W by rw [hW]; exact alloc_below _ _)
  have U1 := Lib.hid (show (Try.prog.info? 37).map (·.size) = some C1.size by rw [end_info, hp.z1])
  have U2 := Lib.hid (show (Try.prog.info? 37).map (·.size) = some C2.size by rw [end_info, hp.z2])
  have CL1 := Lib.hid (fun (w' : World) (hG : Gr W w') (j : Nat) (v : Value) (hv : C1[j]? = some v) => (show w'.cell? ⟨w.heap.size, 0 + j, none⟩ = some v by rw [cell_of_row w' _ _ _ _ (0, 0) (hG.row G)]; exact hp.c1 j v hv))
  have CL2 := Lib.hid (fun (w' : World) (hG : Gr W w') (j : Nat) (v : Value) (hv : C2[j]? = some v) => (show w'.cell? ⟨w.heap.size, 18 + j, none⟩ = some v by rw [cell_of_row w' _ _ _ _ (0, 0) (hG.row G)]; exact hp.c2 j v hv))
  have D1 := Lib.hid (CL1.out W (Below.refl _ _))
  have D2 := Lib.hid (CL2.out W (Below.refl _ _))
  clear h1 h2 hp G hT1 hT2 q1 q2 r1 r2 r3 r4 x1 x2 x3 x4 x5 x6 hS1 hS2 hS3 hS4 hS5 hS6 hU
  go_enter Try.func6, Try.ntmps6
  go_upto_region 1 with fail
  rw [← hW]
  clear hW
  go_upto_region 2 with (first
    | (refine wpList_load_piece rfl 37 (.tmp 14) rfl w.heap.size 0 rfl C1 _ D1.out Try.underlying37 rfl U1.out ?_)
    | (refine wpList_load_piece rfl 37 (.tmp 16) rfl w.heap.size 18 rfl C2 _ D2.out Try.underlying37 rfl U2.out ?_)
    | (go_at_call 15; (with_reducible refine (KA.out _).mono ?_); rintro e w1 ⟨A3, c3, rfl, K3, B3⟩))
  have HB3 := Lib.hid (BW.out.trans (B3.mono BW.out.size))
  have D3 := Lib.hid (CL1.out w1 B3)
  have D4 := Lib.hid (CL2.out w1 B3)
  have HK3 := Lib.hid K3
  clear K3
  clear B3 KA
  go_upto_region 3 with (first
    | (refine wpList_load_piece rfl 37 (.tmp 24) rfl w.heap.size 18 rfl C2 _ D4.out Try.underlying37 rfl U2.out ?_)
    | (refine wpList_load_piece rfl 37 (.tmp 26) rfl w.heap.size 0 rfl C1 _ D3.out Try.underlying37 rfl U1.out ?_)
    | (go_at_call 15; (with_reducible refine (KB.out _).mono ?_); rintro e w2 ⟨B, c, rfl, K4, B4⟩
       have HB4 := Lib.hid (HB3.out.trans (B4.mono HB3.out.size))))
  have hcc : 20 ≤ c := K4.cap
  have HK3b := Lib.hid (HK3.out.below B4)
  have CA := Lib.hid (fun (w' : World) (hG : Gr w2 w') => (show (convert 22 9 (.slice A3 20 c3)).run Try.prog w' = .ok (.string U) w' by rw [EU.out]; exact str_of (HK3b.out.below hG)))
  have Y1 := Lib.hid (cut_mid B 20 c 4 8 4 8 rfl rfl (by decide) (by omega))
  have Y2 := Lib.hid (cut_to B 20 c 4 4 rfl (by omega))
  have Y3 := Lib.hid (cut_mid B 20 c 10 12 10 12 rfl rfl (by decide) (by omega))
  have Y4 := Lib.hid (cut_mid B 20 c 8 10 8 10 rfl rfl (by decide) (by omega))
  have Y5 := Lib.hid (cut_end B 20 c 16 16 rfl (by decide) (by omega))
  have Y6 := Lib.hid (cut_mid B 20 c 12 16 12 16 rfl rfl (by decide) (by omega))
  have Z1 := Lib.hid (fun (w' : World) (hG : Gr w2 w') => E1.out ▸ str_of (key_piece (K4.below hG) 4 8 (by decide) (by decide) X1.out))
  have Z2 := Lib.hid (fun (w' : World) (hG : Gr w2 w') => E2.out ▸ str_of (key_front (K4.below hG) 4 (by decide) X2.out))
  have Z3 := Lib.hid (fun (w' : World) (hG : Gr w2 w') => E3.out ▸ str_of (key_piece (K4.below hG) 10 12 (by decide) (by decide) X3.out))
  have Z4 := Lib.hid (fun (w' : World) (hG : Gr w2 w') => E4.out ▸ str_of (key_piece (K4.below hG) 8 10 (by decide) (by decide) X4.out))
  have Z5 := Lib.hid (fun (w' : World) (hG : Gr w2 w') => E5.out ▸ str_of (key_piece (K4.below hG) 16 20 (by decide) (by decide) X5.out))
  have Z6 := Lib.hid (fun (w' : World) (hG : Gr w2 w') => E6.out ▸ str_of (key_piece (K4.below hG) 12 16 (by decide) (by decide) X6.out))
  clear X1 X2 X3 X4 X5 X6
  obtain ⟨X1, hX1⟩ : ∃ X, X = (if c = 4 then B else B.map (·.add 4)) := ⟨_, rfl⟩
  obtain ⟨d1, hd1⟩ : ∃ d, d = c - 4 := ⟨_, rfl⟩
  rw [← hX1, ← hd1] at Y1
  rw [← hX1, ← hd1] at Z1
  clear hX1 hd1
  obtain ⟨X3, hX3⟩ : ∃ X, X = (if c = 10 then B else B.map (·.add 10)) := ⟨_, rfl⟩
  obtain ⟨d3, hd3⟩ : ∃ d, d = c - 10 := ⟨_, rfl⟩
  rw [← hX3, ← hd3] at Y3
  rw [← hX3, ← hd3] at Z3
  clear hX3 hd3
  obtain ⟨X4, hX4⟩ : ∃ X, X = (if c = 8 then B else B.map (·.add 8)) := ⟨_, rfl⟩
  obtain ⟨d4, hd4⟩ : ∃ d, d = c - 8 := ⟨_, rfl⟩
  rw [← hX4, ← hd4] at Y4
  rw [← hX4, ← hd4] at Z4
  clear hX4 hd4
  obtain ⟨X5, hX5⟩ : ∃ X, X = (if c = 16 then B else B.map (·.add 16)) := ⟨_, rfl⟩
  obtain ⟨d5, hd5⟩ : ∃ d, d = c - 16 := ⟨_, rfl⟩
  rw [← hX5, ← hd5] at Y5
  rw [← hX5, ← hd5] at Z5
  clear hX5 hd5
  obtain ⟨X6, hX6⟩ : ∃ X, X = (if c = 12 then B else B.map (·.add 12)) := ⟨_, rfl⟩
  obtain ⟨d6, hd6⟩ : ∃ d, d = c - 12 := ⟨_, rfl⟩
  rw [← hX6, ← hd6] at Y6
  rw [← hX6, ← hd6] at Z6
  clear hX6 hd6
  clear K4 B4 KB
  go_upto_region 8 with fail
  refine with_act fun a0 ha0 => ?_
  have hl : TuFT.length = a0.tmps.size := by rw [ha0]; rfl
  have k9 : a0.tmps[9]?.getD undef = .slice B 20 c := by rw [ha0]; rfl
  have k11 : a0.tmps[11]?.getD undef = .int .i64 4 := by rw [ha0]; rfl
  refine wp_region_vals (by kernel_rfl) TuFT (by kernel_rfl) (by kernel_rfl) hl (fun i => undef) (by rw [ha0]; rfl) (Gr w2) (TuFV B X1 X3 X4 X5 X6 c d1 d3 d4 d5 d6 S1 S2 S3 S4 S5 S6) (gr_drew _) (TuFV.keep _ _ _ _ _ _ _ _ _ _ _ _ _ _ _ _ _ _) ⟨?_, ?_, ?_, ?_, ?_, ?_, ?_, ?_, ?_, ?_, ?_, ?_, ?_, ?_, ?_, ?_, ?_, ?_, ?_, ?_, ?_, ?_, ?_, ?_, ?_, ?_, ?_, ?_, ?_, ?_, ?_, ?_, ?_, ?_, ?_, ?_, ?_, ?_, ?_, ?_, ?_, ?_, ?_, ?_, ?_, ?_, ?_, ?_, trivial⟩ ?_
  · refine step_plain [] (by kernel_rfl) rfl fun us w' hG hV => ?_
    have o9 := (frame_old2 (us := us) (a := a0) (show (TuFT[9]?).join = none from rfl)).trans k9
    generalize frame TuFT a0 us = fr at *
    exact val_ok (v := .slice B 20 c) (w' := w') (by go_simp) hG (Below.refl _ _) rfl
  · refine step_plain [] (by kernel_rfl) rfl fun us w' hG hV => ?_
    have o11 := (frame_old2 (us := us) (a := a0) (show (TuFT[11]?).join = none from rfl)).trans k11
    generalize frame TuFT a0 us = fr at *
    exact val_ok (v := .int .i64 4) (w' := w') (by go_simp) hG (Below.refl _ _) rfl
  · refine step_plain [] (by kernel_rfl) rfl fun us w' hG hV => ?_
    have o11 := (frame_old2 (us := us) (a := a0) (show (TuFT[11]?).join = none from rfl)).trans k11
    generalize frame TuFT a0 us = fr at *
    exact val_ok (v := .int .i64 4) (w' := w') (by go_simp) hG (Below.refl _ _) rfl
  · refine step_plain [2] (by kernel_rfl) rfl fun us w' hG hV => ?_
    have e2 : us 2 = .int .i64 4 := hV 2 (by simp)
    have v2 := (frame_at2 (us := us) hl (show (TuFT[72]?).join = some 2 from rfl)).trans e2
    have hw : IntKind.i64.wrap 8 = 8 := by decide
    generalize frame TuFT a0 us = fr at *
    exact val_ok (v := .int .i64 8) (w' := w') (by go_simp) hG (Below.refl _ _) rfl
  · refine step_plain [0, 1, 3] (by kernel_rfl) rfl fun us w' hG hV => ?_
    have e0 : us 0 = .slice B 20 c := hV 0 (by simp)
    have v0 := (frame_at2 (us := us) hl (show (TuFT[70]?).join = some 0 from rfl)).trans e0
    have e1 : us 1 = .int .i64 4 := hV 1 (by simp)
    have v1 := (frame_at2 (us := us) hl (show (TuFT[71]?).join = some 1 from rfl)).trans e1
    have e3 : us 3 = .int .i64 8 := hV 3 (by simp)
    have v3 := (frame_at2 (us := us) hl (show (TuFT[73]?).join = some 3 from rfl)).trans e3
    have hs := Y1.out w'
    generalize frame TuFT a0 us = fr at *
    exact val_ok (v := .slice X1 4 d1) (w' := w') (by go_simp) hG (Below.refl _ _) rfl
  · refine step_plain [4] (by kernel_rfl) rfl fun us w' hG hV => ?_
    have e4 : us 4 = .slice X1 4 d1 := hV 4 (by simp)
    have v4 := (frame_at2 (us := us) hl (show (TuFT[74]?).join = some 4 from rfl)).trans e4
    have hs := Z1.out w' hG
    generalize frame TuFT a0 us = fr at *
    exact val_ok (v := .string S1) (w' := w') (by go_simp) hG (Below.refl _ _) rfl
  · refine step_plain [] (by kernel_rfl) rfl fun us w' hG hV => ?_
    have o9 := (frame_old2 (us := us) (a := a0) (show (TuFT[9]?).join = none from rfl)).trans k9
    generalize frame TuFT a0 us = fr at *
    exact val_ok (v := .slice B 20 c) (w' := w') (by go_simp) hG (Below.refl _ _) rfl
  · refine step_plain [] (by kernel_rfl) rfl fun us w' hG hV => ?_
    have o11 := (frame_old2 (us := us) (a := a0) (show (TuFT[11]?).join = none from rfl)).trans k11
    generalize frame TuFT a0 us = fr at *
    exact val_ok (v := .int .i64 4) (w' := w') (by go_simp) hG (Below.refl _ _) rfl
  · refine step_plain [6, 7] (by kernel_rfl) rfl fun us w' hG hV => ?_
    have e6 : us 6 = .slice B 20 c := hV 6 (by simp)
    have v6 := (frame_at2 (us := us) hl (show (TuFT[76]?).join = some 6 from rfl)).trans e6
    have e7 : us 7 = .int .i64 4 := hV 7 (by simp)
    have v7 := (frame_at2 (us := us) hl (show (TuFT[77]?).join = some 7 from rfl)).trans e7
    have hs := Y2.out w'
    generalize frame TuFT a0 us = fr at *
    exact val_ok (v := .slice B 4 c) (w' := w') (by go_simp) hG (Below.refl _ _) rfl
  · refine step_plain [8] (by kernel_rfl) rfl fun us w' hG hV => ?_
    have e8 : us 8 = .slice B 4 c := hV 8 (by simp)
    have v8 := (frame_at2 (us := us) hl (show (TuFT[78]?).join = some 8 from rfl)).trans e8
    have hs := Z2.out w' hG
    generalize frame TuFT a0 us = fr at *
    exact val_ok (v := .string S2) (w' := w') (by go_simp) hG (Below.refl _ _) rfl
  · refine step_plain [5, 9] (by kernel_rfl) rfl fun us w' hG hV => ?_
    have e5 : us 5 = .string S1 := hV 5 (by simp)
    have v5 := (frame_at2 (us := us) hl (show (TuFT[75]?).join = some 5 from rfl)).trans e5
    have e9 : us 9 = .string S2 := hV 9 (by simp)
    have v9 := (frame_at2 (us := us) hl (show (TuFT[79]?).join = some 9 from rfl)).trans e9
    have hz1 := N1.out
    have hz2 := N2.out
    have hz3 := N3.out
    have hz4 := N4.out
    have hz5 := N5.out
    have hz6 := N6.out
    generalize frame TuFT a0 us = fr at *
    exact val_ok (v := .string (S1 ++ S2)) (w' := w') (by go_simp) hG (Below.refl _ _) rfl
  · refine step_plain [] (by kernel_rfl) rfl fun us w' hG hV => ?_
    have o9 := (frame_old2 (us := us) (a := a0) (show (TuFT[9]?).join = none from rfl)).trans k9
    generalize frame TuFT a0 us = fr at *
    exact val_ok (v := .slice B 20 c) (w' := w') (by go_simp) hG (Below.refl _ _) rfl
  · refine step_plain [] (by kernel_rfl) rfl fun us w' hG hV => ?_
    have o11 := (frame_old2 (us := us) (a := a0) (show (TuFT[11]?).join = none from rfl)).trans k11
    generalize frame TuFT a0 us = fr at *
    exact val_ok (v := .int .i64 4) (w' := w') (by go_simp) hG (Below.refl _ _) rfl
  · refine step_plain [12] (by kernel_rfl) rfl fun us w' hG hV => ?_
    have e12 : us 12 = .int .i64 4 := hV 12 (by simp)
    have v12 := (frame_at2 (us := us) hl (show (TuFT[82]?).join = some 12 from rfl)).trans e12
    have hw : IntKind.i64.wrap 8 = 8 := by decide
    generalize frame TuFT a0 us = fr at *
    exact val_ok (v := .int .i64 8) (w' := w') (by go_simp) hG (Below.refl _ _) rfl
  · refine step_plain [13] (by kernel_rfl) rfl fun us w' hG hV => ?_
    have e13 : us 13 = .int .i64 8 := hV 13 (by simp)
    have v13 := (frame_at2 (us := us) hl (show (TuFT[83]?).join = some 13 from rfl)).trans e13
    have hw : IntKind.i64.wrap 10 = 10 := by decide
    generalize frame TuFT a0 us = fr at *
    exact val_ok (v := .int .i64 10) (w' := w') (by go_simp) hG (Below.refl _ _) rfl
  · refine step_plain [] (by kernel_rfl) rfl fun us w' hG hV => ?_
    have o11 := (frame_old2 (us := us) (a := a0) (show (TuFT[11]?).join = none from rfl)).trans k11
    generalize frame TuFT a0 us = fr at *
    exact val_ok (v := .int .i64 4) (w' := w') (by go_simp) hG (Below.refl _ _) rfl
  · refine step_plain [15] (by kernel_rfl) rfl fun us w' hG hV => ?_
    have e15 : us 15 = .int .i64 4 := hV 15 (by simp)
    have v15 := (frame_at2 (us := us) hl (show (TuFT[85]?).join = some 15 from rfl)).trans e15
    have hw : IntKind.i64.wrap 8 = 8 := by decide
    generalize frame TuFT a0 us = fr at *
    exact val_ok (v := .int .i64 8) (w' := w') (by go_simp) hG (Below.refl _ _) rfl
  · refine step_plain [16] (by kernel_rfl) rfl fun us w' hG hV => ?_
    have e16 : us 16 = .int .i64 8 := hV 16 (by simp)
    have v16 := (frame_at2 (us := us) hl (show (TuFT[86]?).join = some 16 from rfl)).trans e16
    have hw : IntKind.i64.wrap 12 = 12 := by decide
    generalize frame TuFT a0 us = fr at *
    exact val_ok (v := .int .i64 12) (w' := w') (by go_simp) hG (Below.refl _ _) rfl
  · refine step_plain [11, 14, 17] (by kernel_rfl) rfl fun us w' hG hV => ?_
    have e11 : us 11 = .slice B 20 c := hV 11 (by simp)
    have v11 := (frame_at2 (us := us) hl (show (TuFT[81]?).join = some 11 from rfl)).trans e11
    have e14 : us 14 = .int .i64 10 := hV 14 (by simp)
    have v14 := (frame_at2 (us := us) hl (show (TuFT[84]?).join = some 14 from rfl)).trans e14
    have e17 : us 17 = .int .i64 12 := hV 17 (by simp)
    have v17 := (frame_at2 (us := us) hl (show (TuFT[87]?).join = some 17 from rfl)).trans e17
    have hs := Y3.out w'
    generalize frame TuFT a0 us = fr at *
    exact val_ok (v := .slice X3 2 d3) (w' := w') (by go_simp) hG (Below.refl _ _) rfl
  · refine step_plain [18] (by kernel_rfl) rfl fun us w' hG hV => ?_
    have e18 : us 18 = .slice X3 2 d3 := hV 18 (by simp)
    have v18 := (frame_at2 (us := us) hl (show (TuFT[88]?).join = some 18 from rfl)).trans e18
    have hs := Z3.out w' hG
    generalize frame TuFT a0 us = fr at *
    exact val_ok (v := .string S3) (w' := w') (by go_simp) hG (Below.refl _ _) rfl
  · refine step_plain [10, 19] (by kernel_rfl) rfl fun us w' hG hV => ?_
    have e10 : us 10 = .string (S1 ++ S2) := hV 10 (by simp)
    have v10 := (frame_at2 (us := us) hl (show (TuFT[80]?).join = some 10 from rfl)).trans e10
    have e19 : us 19 = .string S3 := hV 19 (by simp)
    have v19 := (frame_at2 (us := us) hl (show (TuFT[89]?).join = some 19 from rfl)).trans e19
    have hz1 := N1.out
    have hz2 := N2.out
    have hz3 := N3.out
    have hz4 := N4.out
    have hz5 := N5.out
    have hz6 := N6.out
    generalize frame TuFT a0 us = fr at *
    exact val_ok (v := .string (S1 ++ S2 ++ S3)) (w' := w') (by go_simp) hG (Below.refl _ _) rfl
  · refine step_plain [] (by kernel_rfl) rfl fun us w' hG hV => ?_
    have o9 := (frame_old2 (us := us) (a := a0) (show (TuFT[9]?).join = none from rfl)).trans k9
    generalize frame TuFT a0 us = fr at *
    exact val_ok (v := .slice B 20 c) (w' := w') (by go_simp) hG (Below.refl _ _) rfl
  · refine step_plain [] (by kernel_rfl) rfl fun us w' hG hV => ?_
    have o11 := (frame_old2 (us := us) (a := a0) (show (TuFT[11]?).join = none from rfl)).trans k11
    generalize frame TuFT a0 us = fr at *
    exact val_ok (v := .int .i64 4) (w' := w') (by go_simp) hG (Below.refl _ _) rfl
  · refine step_plain [22] (by kernel_rfl) rfl fun us w' hG hV => ?_
    have e22 : us 22 = .int .i64 4 := hV 22 (by simp)
    have v22 := (frame_at2 (us := us) hl (show (TuFT[92]?).join = some 22 from rfl)).trans e22
    have hw : IntKind.i64.wrap 8 = 8 := by decide
    generalize frame TuFT a0 us = fr at *
    exact val_ok (v := .int .i64 8) (w' := w') (by go_simp) hG (Below.refl _ _) rfl
  · refine step_plain [] (by kernel_rfl) rfl fun us w' hG hV => ?_
    have o11 := (frame_old2 (us := us) (a := a0) (show (TuFT[11]?).join = none from rfl)).trans k11
    generalize frame TuFT a0 us = fr at *
    exact val_ok (v := .int .i64 4) (w' := w') (by go_simp) hG (Below.refl _ _) rfl
  · refine step_plain [24] (by kernel_rfl) rfl fun us w' hG hV => ?_
    have e24 : us 24 = .int .i64 4 := hV 24 (by simp)
    have v24 := (frame_at2 (us := us) hl (show (TuFT[94]?).join = some 24 from rfl)).trans e24
    have hw : IntKind.i64.wrap 8 = 8 := by decide
    generalize frame TuFT a0 us = fr at *
    exact val_ok (v := .int .i64 8) (w' := w') (by go_simp) hG (Below.refl _ _) rfl
  · refine step_plain [25] (by kernel_rfl) rfl fun us w' hG hV => ?_
    have e25 : us 25 = .int .i64 8 := hV 25 (by simp)
    have v25 := (frame_at2 (us := us) hl (show (TuFT[95]?).join = some 25 from rfl)).trans e25
    have hw : IntKind.i64.wrap 10 = 10 := by decide
    generalize frame TuFT a0 us = fr at *
    exact val_ok (v := .int .i64 10) (w' := w') (by go_simp) hG (Below.refl _ _) rfl
  · refine step_plain [21, 23, 26] (by kernel_rfl) rfl fun us w' hG hV => ?_
    have e21 : us 21 = .slice B 20 c := hV 21 (by simp)
    have v21 := (frame_at2 (us := us) hl (show (TuFT[91]?).join = some 21 from rfl)).trans e21
    have e23 : us 23 = .int .i64 8 := hV 23 (by simp)
    have v23 := (frame_at2 (us := us) hl (show (TuFT[93]?).join = some 23 from rfl)).trans e23
    have e26 : us 26 = .int .i64 10 := hV 26 (by simp)
    have v26 := (frame_at2 (us := us) hl (show (TuFT[96]?).join = some 26 from rfl)).trans e26
    have hs := Y4.out w'
    generalize frame TuFT a0 us = fr at *
    exact val_ok (v := .slice X4 2 d4) (w' := w') (by go_simp) hG (Below.refl _ _) rfl
  · refine step_plain [27] (by kernel_rfl) rfl fun us w' hG hV => ?_
    have e27 : us 27 = .slice X4 2 d4 := hV 27 (by simp)
    have v27 := (frame_at2 (us := us) hl (show (TuFT[97]?).join = some 27 from rfl)).trans e27
    have hs := Z4.out w' hG
    generalize frame TuFT a0 us = fr at *
    exact val_ok (v := .string S4) (w' := w') (by go_simp) hG (Below.refl _ _) rfl
  · refine step_plain [20, 28] (by kernel_rfl) rfl fun us w' hG hV => ?_
    have e20 : us 20 = .string (S1 ++ S2 ++ S3) := hV 20 (by simp)
    have v20 := (frame_at2 (us := us) hl (show (TuFT[90]?).join = some 20 from rfl)).trans e20
    have e28 : us 28 = .string S4 := hV 28 (by simp)
    have v28 := (frame_at2 (us := us) hl (show (TuFT[98]?).join = some 28 from rfl)).trans e28
    have hz1 := N1.out
    have hz2 := N2.out
    have hz3 := N3.out
    have hz4 := N4.out
    have hz5 := N5.out
    have hz6 := N6.out
    generalize frame TuFT a0 us = fr at *
    exact val_ok (v := .string (S1 ++ S2 ++ S3 ++ S4)) (w' := w') (by go_simp) hG (Below.refl _ _) rfl
  · refine step_plain [] (by kernel_rfl) rfl fun us w' hG hV => ?_
    have o9 := (frame_old2 (us := us) (a := a0) (show (TuFT[9]?).join = none from rfl)).trans k9
    generalize frame TuFT a0 us = fr at *
    exact val_ok (v := .slice B 20 c) (w' := w') (by go_simp) hG (Below.refl _ _) rfl
  · refine step_plain [] (by kernel_rfl) rfl fun us w' hG hV => ?_
    have o11 := (frame_old2 (us := us) (a := a0) (show (TuFT[11]?).join = none from rfl)).trans k11
    generalize frame TuFT a0 us = fr at *
    exact val_ok (v := .int .i64 4) (w' := w') (by go_simp) hG (Below.refl _ _) rfl
  · refine step_plain [31] (by kernel_rfl) rfl fun us w' hG hV => ?_
    have e31 : us 31 = .int .i64 4 := hV 31 (by simp)
    have v31 := (frame_at2 (us := us) hl (show (TuFT[101]?).join = some 31 from rfl)).trans e31
    have hw : IntKind.i64.wrap 8 = 8 := by decide
    generalize frame TuFT a0 us = fr at *
    exact val_ok (v := .int .i64 8) (w' := w') (by go_simp) hG (Below.refl _ _) rfl
  · refine step_plain [32] (by kernel_rfl) rfl fun us w' hG hV => ?_
    have e32 : us 32 = .int .i64 8 := hV 32 (by simp)
    have v32 := (frame_at2 (us := us) hl (show (TuFT[102]?).join = some 32 from rfl)).trans e32
    have hw : IntKind.i64.wrap 16 = 16 := by decide
    generalize frame TuFT a0 us = fr at *
    exact val_ok (v := .int .i64 16) (w' := w') (by go_simp) hG (Below.refl _ _) rfl
  · refine step_plain [30, 33] (by kernel_rfl) rfl fun us w' hG hV => ?_
    have e30 : us 30 = .slice B 20 c := hV 30 (by simp)
    have v30 := (frame_at2 (us := us) hl (show (TuFT[100]?).join = some 30 from rfl)).trans e30
    have e33 : us 33 = .int .i64 16 := hV 33 (by simp)
    have v33 := (frame_at2 (us := us) hl (show (TuFT[103]?).join = some 33 from rfl)).trans e33
    have hs := Y5.out w'
    generalize frame TuFT a0 us = fr at *
    exact val_ok (v := .slice X5 4 d5) (w' := w') (by go_simp) hG (Below.refl _ _) rfl
  · refine step_plain [34] (by kernel_rfl) rfl fun us w' hG hV => ?_
    have e34 : us 34 = .slice X5 4 d5 := hV 34 (by simp)
    have v34 := (frame_at2 (us := us) hl (show (TuFT[104]?).join = some 34 from rfl)).trans e34
    have hs := Z5.out w' hG
    generalize frame TuFT a0 us = fr at *
    exact val_ok (v := .string S5) (w' := w') (by go_simp) hG (Below.refl _ _) rfl
  · refine step_plain [29, 35] (by kernel_rfl) rfl fun us w' hG hV => ?_
    have e29 : us 29 = .string (S1 ++ S2 ++ S3 ++ S4) := hV 29 (by simp)
    have v29 := (frame_at2 (us := us) hl (show (TuFT[99]?).join = some 29 from rfl)).trans e29
    have e35 : us 35 = .string S5 := hV 35 (by simp)
    have v35 := (frame_at2 (us := us) hl (show (TuFT[105]?).join = some 35 from rfl)).trans e35
    have hz1 := N1.out
    have hz2 := N2.out
    have hz3 := N3.out
    have hz4 := N4.out
    have hz5 := N5.out
    have hz6 := N6.out
    generalize frame TuFT a0 us = fr at *
    exact val_ok (v := .string (S1 ++ S2 ++ S3 ++ S4 ++ S5)) (w' := w') (by go_simp) hG (Below.refl _ _) rfl
  · refine step_plain [] (by kernel_rfl) rfl fun us w' hG hV => ?_
    have o9 := (frame_old2 (us := us) (a := a0) (show (TuFT[9]?).join = none from rfl)).trans k9
    generalize frame TuFT a0 us = fr at *
    exact val_ok (v := .slice B 20 c) (w' := w') (by go_simp) hG (Below.refl _ _) rfl
  · refine step_plain [] (by kernel_rfl) rfl fun us w' hG hV => ?_
    have o11 := (frame_old2 (us := us) (a := a0) (show (TuFT[11]?).join = none from rfl)).trans k11
    generalize frame TuFT a0 us = fr at *
    exact val_ok (v := .int .i64 4) (w' := w') (by go_simp) hG (Below.refl _ _) rfl
  · refine step_plain [38] (by kernel_rfl) rfl fun us w' hG hV => ?_
    have e38 : us 38 = .int .i64 4 := hV 38 (by simp)
    have v38 := (frame_at2 (us := us) hl (show (TuFT[108]?).join = some 38 from rfl)).trans e38
    have hw : IntKind.i64.wrap 8 = 8 := by decide
    generalize frame TuFT a0 us = fr at *
    exact val_ok (v := .int .i64 8) (w' := w') (by go_simp) hG (Below.refl _ _) rfl
  · refine step_plain [39] (by kernel_rfl) rfl fun us w' hG hV => ?_
    have e39 : us 39 = .int .i64 8 := hV 39 (by simp)
    have v39 := (frame_at2 (us := us) hl (show (TuFT[109]?).join = some 39 from rfl)).trans e39
    have hw : IntKind.i64.wrap 12 = 12 := by decide
    generalize frame TuFT a0 us = fr at *
    exact val_ok (v := .int .i64 12) (w' := w') (by go_simp) hG (Below.refl _ _) rfl
  · refine step_plain [] (by kernel_rfl) rfl fun us w' hG hV => ?_
    have o11 := (frame_old2 (us := us) (a := a0) (show (TuFT[11]?).join = none from rfl)).trans k11
    generalize frame TuFT a0 us = fr at *
    exact val_ok (v := .int .i64 4) (w' := w') (by go_simp) hG (Below.refl _ _) rfl
  · refine step_plain [41] (by kernel_rfl) rfl fun us w' hG hV => ?_
    have e41 : us 41 = .int .i64 4 := hV 41 (by simp)
    have v41 := (frame_at2 (us := us) hl (show (TuFT[111]?).join = some 41 from rfl)).trans e41
    have hw : IntKind.i64.wrap 8 = 8 := by decide
    generalize frame TuFT a0 us = fr at *
    exact val_ok (v := .int .i64 8) (w' := w') (by go_simp) hG (Below.refl _ _) rfl
  · refine step_plain [42] (by kernel_rfl) rfl fun us w' hG hV => ?_
    have e42 : us 42 = .int .i64 8 := hV 42 (by simp)
    have v42 := (frame_at2 (us := us) hl (show (TuFT[112]?).join = some 42 from rfl)).trans e42
    have hw : IntKind.i64.wrap 16 = 16 := by decide
    generalize frame TuFT a0 us = fr at *
    exact val_ok (v := .int .i64 16) (w' := w') (by go_simp) hG (Below.refl _ _) rfl
  · refine step_plain [37, 40, 43] (by kernel_rfl) rfl fun us w' hG hV => ?_
    have e37 : us 37 = .slice B 20 c := hV 37 (by simp)
    have v37 := (frame_at2 (us := us) hl (show (TuFT[107]?).join = some 37 from rfl)).trans e37
    have e40 : us 40 = .int .i64 12 := hV 40 (by simp)
    have v40 := (frame_at2 (us := us) hl (show (TuFT[110]?).join = some 40 from rfl)).trans e40
    have e43 : us 43 = .int .i64 16 := hV 43 (by simp)
    have v43 := (frame_at2 (us := us) hl (show (TuFT[113]?).join = some 43 from rfl)).trans e43
    have hs := Y6.out w'
    generalize frame TuFT a0 us = fr at *
    exact val_ok (v := .slice X6 4 d6) (w' := w') (by go_simp) hG (Below.refl _ _) rfl
  · refine step_plain [44] (by kernel_rfl) rfl fun us w' hG hV => ?_
    have e44 : us 44 = .slice X6 4 d6 := hV 44 (by simp)
    have v44 := (frame_at2 (us := us) hl (show (TuFT[114]?).join = some 44 from rfl)).trans e44
    have hs := Z6.out w' hG
    generalize frame TuFT a0 us = fr at *
    exact val_ok (v := .string S6) (w' := w') (by go_simp) hG (Below.refl _ _) rfl
  · refine step_plain [36, 45] (by kernel_rfl) rfl fun us w' hG hV => ?_
    have e36 : us 36 = .string (S1 ++ S2 ++ S3 ++ S4 ++ S5) := hV 36 (by simp)
    have v36 := (frame_at2 (us := us) hl (show (TuFT[106]?).join = some 36 from rfl)).trans e36
    have e45 : us 45 = .string S6 := hV 45 (by simp)
    have v45 := (frame_at2 (us := us) hl (show (TuFT[115]?).join = some 45 from rfl)).trans e45
    have hz1 := N1.out
    have hz2 := N2.out
    have hz3 := N3.out
    have hz4 := N4.out
    have hz5 := N5.out
    have hz6 := N6.out
    generalize frame TuFT a0 us = fr at *
    exact val_ok (v := .string (S1 ++ S2 ++ S3 ++ S4 ++ S5 ++ S6)) (w' := w') (by go_simp) hG (Below.refl _ _) rfl
  · refine step_plain [46] (by kernel_rfl) rfl fun us w' hG hV => ?_
    have e46 : us 46 = .string (S1 ++ S2 ++ S3 ++ S4 ++ S5 ++ S6) := hV 46 (by simp)
    have v46 := (frame_at2 (us := us) hl (show (TuFT[116]?).join = some 46 from rfl)).trans e46
    generalize frame TuFT a0 us = fr at *
    exact val_ok (v := .string (S1 ++ S2 ++ S3 ++ S4 ++ S5 ++ S6)) (w' := w') (by go_simp) hG (Below.refl _ _) rfl
  · intro us w6 hG hV
    have eL : us 47 = .string (S1 ++ S2 ++ S3 ++ S4 ++ S5 ++ S6) := hV 47 (by decide)
    rw [HS.out] at eL
    have hc := CA.out w6 hG
    have BQ := Lib.hid (HB4.out.trans (hG.mono HB4.out.size))
    subst ha0
    simp only [frame, TuFT, fill]
    rw [eL]
    clear hV hl k9 k11 hG eL
    go_wp2_with (first
      | (go_at_call 10; refine (alive_any _).mono ?_; rintro e w9 ⟨rfl, B9⟩))
    go_ret
    exact ⟨rfl, BQ.out.trans (B9.mono BQ.out.size)⟩
def TuSV (B X1 X3 X4 X5 X6 : Option Addr) (c d1 d3 d4 d5 d6 : Nat) (S1 S2 S3 S4 S5 S6 : ByteArray) : Nat → Value → World → Prop
  | 0, v, _ => v = .slice B 44 c
  | 1, v, _ => v = .int .i64 16
  | 2, v, _ => v = .int .i64 16
  | 3, v, _ => v = .int .i64 32
  | 4, v, _ => v = .slice X1 16 d1
  | 5, v, _ => v = .string S1
  | 6, v, _ => v = .slice B 44 c
  | 7, v, _ => v = .int .i64 16
  | 8, v, _ => v = .slice B 16 c
  | 9, v, _ => v = .string S2
  | 10, v, _ => v = .string (S1 ++ S2)
  | 11, v, _ => v = .slice B 44 c
  | 12, v, _ => v = .int .i64 16
  | 13, v, _ => v = .int .i64 32
  | 14, v, _ => v = .int .i64 34
  | 15, v, _ => v = .int .i64 16
  | 16, v, _ => v = .int .i64 32
  | 17, v, _ => v = .int .i64 36
  | 18, v, _ => v = .slice X3 2 d3
  | 19, v, _ => v = .string S3
  | 20, v, _ => v = .string (S1 ++ S2 ++ S3)
  | 21, v, _ => v = .slice B 44 c
  | 22, v, _ => v = .int .i64 16
  | 23, v, _ => v = .int .i64 32
  | 24, v, _ => v = .int .i64 16
  | 25, v, _ => v = .int .i64 32
  | 26, v, _ => v = .int .i64 34
  | 27, v, _ => v = .slice X4 2 d4
  | 28, v, _ => v = .string S4
  | 29, v, _ => v = .string (S1 ++ S2 ++ S3 ++ S4)
  | 30, v, _ => v = .slice B 44 c
  | 31, v, _ => v = .int .i64 16
  | 32, v, _ => v = .int .i64 32
  | 33, v, _ => v = .int .i64 40
  | 34, v, _ => v = .slice X5 4 d5
  | 35, v, _ => v = .string S5
  | 36, v, _ => v = .string (S1 ++ S2 ++ S3 ++ S4 ++ S5)
  | 37, v, _ => v = .slice B 44 c
  | 38, v, _ => v = .int .i64 16
  | 39, v, _ => v = .int .i64 32
  | 40, v, _ => v = .int .i64 36
  | 41, v, _ => v = .int .i64 16
  | 42, v, _ => v = .int .i64 32
  | 43, v, _ => v = .int .i64 40
  | 44, v, _ => v = .slice X6 4 d6
  | 45, v, _ => v = .string S6
  | 46, v, _ => v = .string (S1 ++ S2 ++ S3 ++ S4 ++ S5 ++ S6)
  | 47, v, _ => v = .string (S1 ++ S2 ++ S3 ++ S4 ++ S5 ++ S6)
  | _, _, _ => True
theorem TuSV.keep (B X1 X3 X4 X5 X6 : Option Addr) (c d1 d3 d4 d5 d6 : Nat) (S1 S2 S3 S4 S5 S6 : ByteArray) (i : Nat) (v : Value) (w w' : World) (hb : Below w.heap.size w w') (h : TuSV B X1 X3 X4 X5 X6 c d1 d3 d4 d5 d6 S1 S2 S3 S4 S5 S6 i v w) : TuSV B X1 X3 X4 X5 X6 c d1 d3 d4 d5 d6 S1 S2 S3 S4 S5 S6 i v w' := by
  unfold TuSV at h ⊢
  split at h <;> exact h
def TuST : List (Option Nat) := [none, none, none, none, none, none, none, none, none, none, none, none, some 47, none, none, none, none, none, none, none, none, none, none, none, none, none, none, none, none, none, none, none, none, none, none, none, none, none, none, none, none, none, none, none, none, none, none, none, none, none, none, none, none, none, none, none, none, none, none, none, none, none, none, none, none, none, none, none, none, none, some 0, some 1, some 2, some 3, some 4, some 5, some 6, some 7, some 8, some 9, some 10, some 11, some 12, some 13, some 14, some 15, some 16, some 17, some 18, some 19, some 20, some 21, some 22, some 23, some 24, some 25, some 26, some 27, some 28, some 29, some 30, some 31, some 32, some 33, some 34, some 35, some 36, some 37, some 38, some 39, some 40, some 41, some 42, some 43, some 44, some 45, some 46, none, none, none, none, none, none, none]
set_option maxRecDepth 100000 in
set_option maxHeartbeats 2000000 in
theorem turned_six (cs C1 C2 : Array Value) (b1 b2 : List Int) (p1 p2 i1 i2 : Int) (w : World) (hp : PairC cs C1 C2) (h1 : EndC C1 true b1 p1) (h2 : EndC C2 true b2 p2) (l1 : 0 ≤ i1) (m1 : i1 ≤ 4294967295) (l2 : 0 ≤ i2) (m2 : i2 ≤ 4294967295) :
    Calls Try.prog 6 #[.agg cs, .int .u32 i1, .int .u32 i2] w (AliveRet w) := by
  obtain ⟨T1, hT1⟩ : ∃ T, T = ctxL true b1 b2 p1 p2 i1 i2 := ⟨_, rfl⟩
  obtain ⟨T2, hT2⟩ : ∃ T, T = ctxL true b2 b1 p2 p1 i2 i1 := ⟨_, rfl⟩
  have KA := Lib.hid (fun w' => (ctx_same C1 C2 true b1 b2 p1 p2 i1 i2 w' h1 h2 l1 m1 l2 m2).mono fun e w2 h => two_len (N := 44) h (by rw [ctxL_len _ _ _ _ h1.len h2.len]; rfl))
  have KB := Lib.hid (fun w' => (ctx_same C2 C1 true b2 b1 p2 p1 i2 i1 w' h2 h1 l2 m2 l1 m1).mono fun e w2 h => two_len (N := 44) h (by rw [ctxL_len _ _ _ _ h2.len h1.len]; rfl))
  rw [← hT1] at KA
  rw [← hT2] at KB
  have q1 := adrL_len (six := true) h1.len
  have q2 := adrL_len (six := true) h2.len
  rw [ctxL_is] at hT1 hT2
  generalize adrL true b1 = M1 at *
  generalize adrL true b2 = M2 at *
  have r1 := octC.numL_len 2 p1
  have r2 := octC.numL_len 2 p2
  have r3 := octC.numL_len 4 i1
  have r4 := octC.numL_len 4 i2
  generalize octC.numL 2 p1 = P1 at *
  generalize octC.numL 2 p2 = P2 at *
  generalize octC.numL 4 i1 = I1 at *
  generalize octC.numL 4 i2 = I2 at *
  have q1 : M1.length = 16 := q1
  have q2 : M2.length = 16 := q2
  have x1 : (T2.drop 16).take (32 - 16) = M1 := cut_at (pre := M2) (post := P2 ++ (P1 ++ (I2 ++ I1))) hT2 q2 q1
  have x2 : T2.take 16 = M2 := by rw [hT2, List.take_left' q2]
  have x3 : (T2.drop 34).take (36 - 34) = P1 := cut_at (pre := M2 ++ (M1 ++ P2)) (post := I2 ++ I1) (by rw [hT2]; simp) (by simp [q1, q2, r2]) r1
  have x4 : (T2.drop 32).take (34 - 32) = P2 := cut_at (pre := M2 ++ M1) (post := P1 ++ (I2 ++ I1)) (by rw [hT2]; simp) (by simp [q1, q2]) r2
  have x5 : (T2.drop 40).take (44 - 40) = I1 := cut_at (pre := M2 ++ (M1 ++ (P2 ++ (P1 ++ I2)))) (post := []) (by rw [hT2]; simp) (by simp [q1, q2, r1, r2, r4]) r3
  have x6 : (T2.drop 36).take (40 - 36) = I2 := cut_at (pre := M2 ++ (M1 ++ (P2 ++ P1))) (post := I1) (by rw [hT2]; simp) (by simp [q1, q2, r1, r2]) r4
  obtain ⟨S1, hS1⟩ : ∃ S, S = strOfNums M1 := ⟨_, rfl⟩
  obtain ⟨S2, hS2⟩ : ∃ S, S = strOfNums M2 := ⟨_, rfl⟩
  obtain ⟨S3, hS3⟩ : ∃ S, S = strOfNums P1 := ⟨_, rfl⟩
  obtain ⟨S4, hS4⟩ : ∃ S, S = strOfNums P2 := ⟨_, rfl⟩
  obtain ⟨S5, hS5⟩ : ∃ S, S = strOfNums I1 := ⟨_, rfl⟩
  obtain ⟨S6, hS6⟩ : ∃ S, S = strOfNums I2 := ⟨_, rfl⟩
  obtain ⟨U, hU⟩ : ∃ U, U = strOfNums T1 := ⟨_, rfl⟩
  have HS := Lib.hid (show S1 ++ S2 ++ S3 ++ S4 ++ S5 ++ S6 = U by rw [hS1, hS2, hS3, hS4, hS5, hS6, hU, strOf_append, strOf_append, strOf_append, strOf_append, strOf_append, hT1]; simp)
  have N1 := Lib.hid (show S1.size = 16 by rw [hS1, strOfNums_size]; exact q1)
  have N2 := Lib.hid (show S2.size = 16 by rw [hS2, strOfNums_size]; exact q2)
  have N3 := Lib.hid (show S3.size = 2 by rw [hS3, strOfNums_size]; exact r1)
  have N4 := Lib.hid (show S4.size = 2 by rw [hS4, strOfNums_size]; exact r2)
  have N5 := Lib.hid (show S5.size = 4 by rw [hS5, strOfNums_size]; exact r3)
  have N6 := Lib.hid (show S6.size = 4 by rw [hS6, strOfNums_size]; exact r4)
  have X1 := Lib.hid x1; have X2 := Lib.hid x2; have X3 := Lib.hid x3; have X4 := Lib.hid x4; have X5 := Lib.hid x5; have X6 := Lib.hid x6
  have E1 := Lib.hid hS1; have E2 := Lib.hid hS2; have E3 := Lib.hid hS3; have E4 := Lib.hid hS4; have E5 := Lib.hid hS5; have E6 := Lib.hid hS6; have EU := Lib.hid hU
  obtain ⟨W, hW⟩ : ∃ W, W = w.alloc (.cells cs 39) := ⟨_, rfl⟩
  have G : W.heap[w.heap.size]? = some (.cells cs 39 (0, 0)) := by rw [hW]; exact heap_alloc_new w _
  have BW := Lib.hid (show Below w.heap.size w W by rw [hW]; exact alloc_below _ _)
  have U1 := Lib.hid (show (Try.prog.info? 37).map (·.size) = some C1.size by rw [end_info, hp.z1])
  have U2 := Lib.hid (show (Try.prog.info? 37).map (·.size) = some C2.size by rw [end_info, hp.z2])
  have CL1 := Lib.hid (fun (w' : World) (hG : Gr W w') (j : Nat) (v : Value) (hv : C1[j]? = some v) => (show w'.cell? ⟨w.heap.size, 0 + j, none⟩ = some v by rw [cell_of_row w' _ _ _ _ (0, 0) (hG.row G)]; exact hp.c1 j v hv))
  have CL2 := Lib.hid (fun (w' : World) (hG : Gr W w') (j : Nat) (v : Value) (hv : C2[j]? = some v) => (show w'.cell? ⟨w.heap.size, 18 + j, none⟩ = some v by rw [cell_of_row w' _ _ _ _ (0, 0) (hG.row G)]; exact hp.c2 j v hv))
  have D1 := Lib.hid (CL1.out W (Below.refl _ _))
  have D2 := Lib.hid (CL2.out W (Below.refl _ _))
  clear h1 h2 hp G hT1 hT2 q1 q2 r1 r2 r3 r4 x1 x2 x3 x4 x5 x6 hS1 hS2 hS3 hS4 hS5 hS6 hU
  go_enter Try.func6, Try.ntmps6
  go_upto_region 1 with fail
  rw [← hW]
  clear hW
  go_upto_region 2 with (first
    | (refine wpList_load_piece rfl 37 (.tmp 14) rfl w.heap.size 0 rfl C1 _ D1.out Try.underlying37 rfl U1.out ?_)
    | (refine wpList_load_piece rfl 37 (.tmp 16) rfl w.heap.size 18 rfl C2 _ D2.out Try.underlying37 rfl U2.out ?_)
    | (go_at_call 15; (with_reducible refine (KA.out _).mono ?_); rintro e w1 ⟨A3, c3, rfl, K3, B3⟩))
  have HB3 := Lib.hid (BW.out.trans (B3.mono BW.out.size))
  have D3 := Lib.hid (CL1.out w1 B3)
  have D4 := Lib.hid (CL2.out w1 B3)
  have HK3 := Lib.hid K3
  clear K3
  clear B3 KA
  go_upto_region 3 with (first
    | (refine wpList_load_piece rfl 37 (.tmp 24) rfl w.heap.size 18 rfl C2 _ D4.out Try.underlying37 rfl U2.out ?_)
    | (refine wpList_load_piece rfl 37 (.tmp 26) rfl w.heap.size 0 rfl C1 _ D3.out Try.underlying37 rfl U1.out ?_)
    | (go_at_call 15; (with_reducible refine (KB.out _).mono ?_); rintro e w2 ⟨B, c, rfl, K4, B4⟩
       have HB4 := Lib.hid (HB3.out.trans (B4.mono HB3.out.size))))
  have hcc : 44 ≤ c := K4.cap
  have HK3b := Lib.hid (HK3.out.below B4)
  have CA := Lib.hid (fun (w' : World) (hG : Gr w2 w') => (show (convert 22 9 (.slice A3 44 c3)).run Try.prog w' = .ok (.string U) w' by rw [EU.out]; exact str_of (HK3b.out.below hG)))
  have Y1 := Lib.hid (cut_mid B 44 c 16 32 16 32 rfl rfl (by decide) (by omega))
  have Y2 := Lib.hid (cut_to B 44 c 16 16 rfl (by omega))
  have Y3 := Lib.hid (cut_mid B 44 c 34 36 34 36 rfl rfl (by decide) (by omega))
  have Y4 := Lib.hid (cut_mid B 44 c 32 34 32 34 rfl rfl (by decide) (by omega))
  have Y5 := Lib.hid (cut_end B 44 c 40 40 rfl (by decide) (by omega))
  have Y6 := Lib.hid (cut_mid B 44 c 36 40 36 40 rfl rfl (by decide) (by omega))
  have Z1 := Lib.hid (fun (w' : World) (hG : Gr w2 w') => E1.out ▸ str_of (key_piece (K4.below hG) 16 32 (by decide) (by decide) X1.out))
  have Z2 := Lib.hid (fun (w' : World) (hG : Gr w2 w') => E2.out ▸ str_of (key_front (K4.below hG) 16 (by decide) X2.out))
  have Z3 := Lib.hid (fun (w' : World) (hG : Gr w2 w') => E3.out ▸ str_of (key_piece (K4.below hG) 34 36 (by decide) (by decide) X3.out))
  have Z4 := Lib.hid (fun (w' : World) (hG : Gr w2 w') => E4.out ▸ str_of (key_piece (K4.below hG) 32 34 (by decide) (by decide) X4.out))
  have Z5 := Lib.hid (fun (w' : World) (hG : Gr w2 w') => E5.out ▸ str_of (key_piece (K4.below hG) 40 44 (by decide) (by decide) X5.out))
  have Z6 := Lib.hid (fun (w' : World) (hG : Gr w2 w') => E6.out ▸ str_of (key_piece (K4.below hG) 36 40 (by decide) (by decide) X6.out))
  clear X1 X2 X3 X4 X5 X6
  obtain ⟨X1, hX1⟩ : ∃ X, X = (if c = 16 then B else B.map (·.add 16)) := ⟨_, rfl⟩
  obtain ⟨d1, hd1⟩ : ∃ d, d = c - 16 := ⟨_, rfl⟩
  rw [← hX1, ← hd1] at Y1
  rw [← hX1, ← hd1] at Z1
  clear hX1 hd1
  obtain ⟨X3, hX3⟩ : ∃ X, X = (if c = 34 then B else B.map (·.add 34)) := ⟨_, rfl⟩
  obtain ⟨d3, hd3⟩ : ∃ d, d = c - 34 := ⟨_, rfl⟩
  rw [← hX3, ← hd3] at Y3
  rw [← hX3, ← hd3] at Z3
  clear hX3 hd3
  obtain ⟨X4, hX4⟩ : ∃ X, X = (if c = 32 then B else B.map (·.add 32)) := ⟨_, rfl⟩
  obtain ⟨d4, hd4⟩ : ∃ d, d = c - 32 := ⟨_, rfl⟩
  rw [← hX4, ← hd4] at Y4
  rw [← hX4, ← hd4] at Z4
  clear hX4 hd4
  obtain ⟨X5, hX5⟩ : ∃ X, X = (if c = 40 then B else B.map (·.add 40)) := ⟨_, rfl⟩
  obtain ⟨d5, hd5⟩ : ∃ d, d = c - 40 := ⟨_, rfl⟩
  rw [← hX5, ← hd5] at Y5
  rw [← hX5, ← hd5] at Z5
  clear hX5 hd5
  obtain ⟨X6, hX6⟩ : ∃ X, X = (if c = 36 then B else B.map (·.add 36)) := ⟨_, rfl⟩
  obtain ⟨d6, hd6⟩ : ∃ d, d = c - 36 := ⟨_, rfl⟩
  rw [← hX6, ← hd6] at Y6
  rw [← hX6, ← hd6] at Z6
  clear hX6 hd6
  clear K4 B4 KB
  go_upto_region 8 with fail
  refine with_act fun a0 ha0 => ?_
  have hl : TuST.length = a0.tmps.size := by rw [ha0]; rfl
  have k9 : a0.tmps[9]?.getD undef = .slice B 44 c := by rw [ha0]; rfl
  have k11 : a0.tmps[11]?.getD undef = .int .i64 16 := by rw [ha0]; rfl
  refine wp_region_vals (by kernel_rfl) TuST (by kernel_rfl) (by kernel_rfl) hl (fun i => undef) (by rw [ha0]; rfl) (Gr w2) (TuSV B X1 X3 X4 X5 X6 c d1 d3 d4 d5 d6 S1 S2 S3 S4 S5 S6) (gr_drew _) (TuSV.keep _ _ _ _ _ _ _ _ _ _ _ _ _ _ _ _ _ _) ⟨?_, ?_, ?_, ?_, ?_, ?_, ?_, ?_, ?_, ?_, ?_, ?_, ?_, ?_, ?_, ?_, ?_, ?_, ?_, ?_, ?_, ?_, ?_, ?_, ?_, ?_, ?_, ?_, ?_, ?_, ?_, ?_, ?_, ?_, ?_, ?_, ?_, ?_, ?_, ?_, ?_, ?_, ?_, ?_, ?_, ?_, ?_, ?_, trivial⟩ ?_
  · refine step_plain [] (by kernel_rfl) rfl fun us w' hG hV => ?_
    have o9 := (frame_old2 (us := us) (a := a0) (show (TuST[9]?).join = none from rfl)).trans k9
    generalize frame TuST a0 us = fr at *
    exact val_ok (v := .slice B 44 c) (w' := w') (by go_simp) hG (Below.refl _ _) rfl
  · refine step_plain [] (by kernel_rfl) rfl fun us w' hG hV => ?_
    have o11 := (frame_old2 (us := us) (a := a0) (show (TuST[11]?).join = none from rfl)).trans k11
    generalize frame TuST a0 us = fr at *
    exact val_ok (v := .int .i64 16) (w' := w') (by go_simp) hG (Below.refl _ _) rfl
  · refine step_plain [] (by kernel_rfl) rfl fun us w' hG hV => ?_
    have o11 := (frame_old2 (us := us) (a := a0) (show (TuST[11]?).join = none from rfl)).trans k11
    generalize frame TuST a0 us = fr at *
    exact val_ok (v := .int .i64 16) (w' := w') (by go_simp) hG (Below.refl _ _) rfl
  · refine step_plain [2] (by kernel_rfl) rfl fun us w' hG hV => ?_
    have e2 : us 2 = .int .i64 16 := hV 2 (by simp)
    have v2 := (frame_at2 (us := us) hl (show (TuST[72]?).join = some 2 from rfl)).trans e2
    have hw : IntKind.i64.wrap 32 = 32 := by decide
    generalize frame TuST a0 us = fr at *
    exact val_ok (v := .int .i64 32) (w' := w') (by go_simp) hG (Below.refl _ _) rfl
  · refine step_plain [0, 1, 3] (by kernel_rfl) rfl fun us w' hG hV => ?_
    have e0 : us 0 = .slice B 44 c := hV 0 (by simp)
    have v0 := (frame_at2 (us := us) hl (show (TuST[70]?).join = some 0 from rfl)).trans e0
    have e1 : us 1 = .int .i64 16 := hV 1 (by simp)
    have v1 := (frame_at2 (us := us) hl (show (TuST[71]?).join = some 1 from rfl)).trans e1
    have e3 : us 3 = .int .i64 32 := hV 3 (by simp)
    have v3 := (frame_at2 (us := us) hl (show (TuST[73]?).join = some 3 from rfl)).trans e3
    have hs := Y1.out w'
    generalize frame TuST a0 us = fr at *
    exact val_ok (v := .slice X1 16 d1) (w' := w') (by go_simp) hG (Below.refl _ _) rfl
  · refine step_plain [4] (by kernel_rfl) rfl fun us w' hG hV => ?_
    have e4 : us 4 = .slice X1 16 d1 := hV 4 (by simp)
    have v4 := (frame_at2 (us := us) hl (show (TuST[74]?).join = some 4 from rfl)).trans e4
    have hs := Z1.out w' hG
    generalize frame TuST a0 us = fr at *
    exact val_ok (v := .string S1) (w' := w') (by go_simp) hG (Below.refl _ _) rfl
  · refine step_plain [] (by kernel_rfl) rfl fun us w' hG hV => ?_
    have o9 := (frame_old2 (us := us) (a := a0) (show (TuST[9]?).join = none from rfl)).trans k9
    generalize frame TuST a0 us = fr at *
    exact val_ok (v := .slice B 44 c) (w' := w') (by go_simp) hG (Below.refl _ _) rfl
  · refine step_plain [] (by kernel_rfl) rfl fun us w' hG hV => ?_
    have o11 := (frame_old2 (us := us) (a := a0) (show (TuST[11]?).join = none from rfl)).trans k11
    generalize frame TuST a0 us = fr at *
    exact val_ok (v := .int .i64 16) (w' := w') (by go_simp) hG (Below.refl _ _) rfl
  · refine step_plain [6, 7] (by kernel_rfl) rfl fun us w' hG hV => ?_
    have e6 : us 6 = .slice B 44 c := hV 6 (by simp)
    have v6 := (frame_at2 (us := us) hl (show (TuST[76]?).join = some 6 from rfl)).trans e6
    have e7 : us 7 = .int .i64 16 := hV 7 (by simp)
    have v7 := (frame_at2 (us := us) hl (show (TuST[77]?).join = some 7 from rfl)).trans e7
    have hs := Y2.out w'
    generalize frame TuST a0 us = fr at *
    exact val_ok (v := .slice B 16 c) (w' := w') (by go_simp) hG (Below.refl _ _) rfl
  · refine step_plain [8] (by kernel_rfl) rfl fun us w' hG hV => ?_
    have e8 : us 8 = .slice B 16 c := hV 8 (by simp)
    have v8 := (frame_at2 (us := us) hl (show (TuST[78]?).join = some 8 from rfl)).trans e8
    have hs := Z2.out w' hG
    generalize frame TuST a0 us = fr at *
    exact val_ok (v := .string S2) (w' := w') (by go_simp) hG (Below.refl _ _) rfl
  · refine step_plain [5, 9] (by kernel_rfl) rfl fun us w' hG hV => ?_
    have e5 : us 5 = .string S1 := hV 5 (by simp)
    have v5 := (frame_at2 (us := us) hl (show (TuST[75]?).join = some 5 from rfl)).trans e5
    have e9 : us 9 = .string S2 := hV 9 (by simp)
    have v9 := (frame_at2 (us := us) hl (show (TuST[79]?).join = some 9 from rfl)).trans e9
    have hz1 := N1.out
    have hz2 := N2.out
    have hz3 := N3.out
    have hz4 := N4.out
    have hz5 := N5.out
    have hz6 := N6.out
    generalize frame TuST a0 us = fr at *
    exact val_ok (v := .string (S1 ++ S2)) (w' := w') (by go_simp) hG (Below.refl _ _) rfl
  · refine step_plain [] (by kernel_rfl) rfl fun us w' hG hV => ?_
    have o9 := (frame_old2 (us := us) (a := a0) (show (TuST[9]?).join = none from rfl)).trans k9
    generalize frame TuST a0 us = fr at *
    exact val_ok (v := .slice B 44 c) (w' := w') (by go_simp) hG (Below.refl _ _) rfl
  · refine step_plain [] (by kernel_rfl) rfl fun us w' hG hV => ?_
    have o11 := (frame_old2 (us := us) (a := a0) (show (TuST[11]?).join = none from rfl)).trans k11
    generalize frame TuST a0 us = fr at *
    exact val_ok (v := .int .i64 16) (w' := w') (by go_simp) hG (Below.refl _ _) rfl
  · refine step_plain [12] (by kernel_rfl) rfl fun us w' hG hV => ?_
    have e12 : us 12 = .int .i64 16 := hV 12 (by simp)
    have v12 := (frame_at2 (us := us) hl (show (TuST[82]?).join = some 12 from rfl)).trans e12
    have hw : IntKind.i64.wrap 32 = 32 := by decide
    generalize frame TuST a0 us = fr at *
    exact val_ok (v := .int .i64 32) (w' := w') (by go_simp) hG (Below.refl _ _) rfl
  · refine step_plain [13] (by kernel_rfl) rfl fun us w' hG hV => ?_
    have e13 : us 13 = .int .i64 32 := hV 13 (by simp)
    have v13 := (frame_at2 (us := us) hl (show (TuST[83]?).join = some 13 from rfl)).trans e13
    have hw : IntKind.i64.wrap 34 = 34 := by decide
    generalize frame TuST a0 us = fr at *
    exact val_ok (v := .int .i64 34) (w' := w') (by go_simp) hG (Below.refl _ _) rfl
  · refine step_plain [] (by kernel_rfl) rfl fun us w' hG hV => ?_
    have o11 := (frame_old2 (us := us) (a := a0) (show (TuST[11]?).join = none from rfl)).trans k11
    generalize frame TuST a0 us = fr at *
    exact val_ok (v := .int .i64 16) (w' := w') (by go_simp) hG (Below.refl _ _) rfl
  · refine step_plain [15] (by kernel_rfl) rfl fun us w' hG hV => ?_
    have e15 : us 15 = .int .i64 16 := hV 15 (by simp)
    have v15 := (frame_at2 (us := us) hl (show (TuST[85]?).join = some 15 from rfl)).trans e15
    have hw : IntKind.i64.wrap 32 = 32 := by decide
    generalize frame TuST a0 us = fr at *
    exact val_ok (v := .int .i64 32) (w' := w') (by go_simp) hG (Below.refl _ _) rfl
  · refine step_plain [16] (by kernel_rfl) rfl fun us w' hG hV => ?_
    have e16 : us 16 = .int .i64 32 := hV 16 (by simp)
    have v16 := (frame_at2 (us := us) hl (show (TuST[86]?).join = some 16 from rfl)).trans e16
    have hw : IntKind.i64.wrap 36 = 36 := by decide
    generalize frame TuST a0 us = fr at *
    exact val_ok (v := .int .i64 36) (w' := w') (by go_simp) hG (Below.refl _ _) rfl
  · refine step_plain [11, 14, 17] (by kernel_rfl) rfl fun us w' hG hV => ?_
    have e11 : us 11 = .slice B 44 c := hV 11 (by simp)
    have v11 := (frame_at2 (us := us) hl (show (TuST[81]?).join = some 11 from rfl)).trans e11
    have e14 : us 14 = .int .i64 34 := hV 14 (by simp)
    have v14 := (frame_at2 (us := us) hl (show (TuST[84]?).join = some 14 from rfl)).trans e14
    have e17 : us 17 = .int .i64 36 := hV 17 (by simp)
    have v17 := (frame_at2 (us := us) hl (show (TuST[87]?).join = some 17 from rfl)).trans e17
    have hs := Y3.out w'
    generalize frame TuST a0 us = fr at *
    exact val_ok (v := .slice X3 2 d3) (w' := w') (by go_simp) hG (Below.refl _ _) rfl
  · refine step_plain [18] (by kernel_rfl) rfl fun us w' hG hV => ?_
    have e18 : us 18 = .slice X3 2 d3 := hV 18 (by simp)
    have v18 := (frame_at2 (us := us) hl (show (TuST[88]?).join = some 18 from rfl)).trans e18
    have hs := Z3.out w' hG
    generalize frame TuST a0 us = fr at *
    exact val_ok (v := .string S3) (w' := w') (by go_simp) hG (Below.refl _ _) rfl
  · refine step_plain [10, 19] (by kernel_rfl) rfl fun us w' hG hV => ?_
    have e10 : us 10 = .string (S1 ++ S2) := hV 10 (by simp)
    have v10 := (frame_at2 (us := us) hl (show (TuST[80]?).join = some 10 from rfl)).trans e10
    have e19 : us 19 = .string S3 := hV 19 (by simp)
    have v19 := (frame_at2 (us := us) hl (show (TuST[89]?).join = some 19 from rfl)).trans e19
    have hz1 := N1.out
    have hz2 := N2.out
    have hz3 := N3.out
    have hz4 := N4.out
    have hz5 := N5.out
    have hz6 := N6.out
    generalize frame TuST a0 us = fr at *
    exact val_ok (v := .string (S1 ++ S2 ++ S3)) (w' := w') (by go_simp) hG (Below.refl _ _) rfl
  · refine step_plain [] (by kernel_rfl) rfl fun us w' hG hV => ?_
    have o9 := (frame_old2 (us := us) (a := a0) (show (TuST[9]?).join = none from rfl)).trans k9
    generalize frame TuST a0 us = fr at *
    exact val_ok (v := .slice B 44 c) (w' := w') (by go_simp) hG (Below.refl _ _) rfl
  · refine step_plain [] (by kernel_rfl) rfl fun us w' hG hV => ?_
    have o11 := (frame_old2 (us := us) (a := a0) (show (TuST[11]?).join = none from rfl)).trans k11
    generalize frame TuST a0 us = fr at *
    exact val_ok (v := .int .i64 16) (w' := w') (by go_simp) hG (Below.refl _ _) rfl
  · refine step_plain [22] (by kernel_rfl) rfl fun us w' hG hV => ?_
    have e22 : us 22 = .int .i64 16 := hV 22 (by simp)
    have v22 := (frame_at2 (us := us) hl (show (TuST[92]?).join = some 22 from rfl)).trans e22
    have hw : IntKind.i64.wrap 32 = 32 := by decide
    generalize frame TuST a0 us = fr at *
    exact val_ok (v := .int .i64 32) (w' := w') (by go_simp) hG (Below.refl _ _) rfl
  · refine step_plain [] (by kernel_rfl) rfl fun us w' hG hV => ?_
    have o11 := (frame_old2 (us := us) (a := a0) (show (TuST[11]?).join = none from rfl)).trans k11
    generalize frame TuST a0 us = fr at *
    exact val_ok (v := .int .i64 16) (w' := w') (by go_simp) hG (Below.refl _ _) rfl
  · refine step_plain [24] (by kernel_rfl) rfl fun us w' hG hV => ?_
    have e24 : us 24 = .int .i64 16 := hV 24 (by simp)
    have v24 := (frame_at2 (us := us) hl (show (TuST[94]?).join = some 24 from rfl)).trans e24
    have hw : IntKind.i64.wrap 32 = 32 := by decide
    generalize frame TuST a0 us = fr at *
    exact val_ok (v := .int .i64 32) (w' := w') (by go_simp) hG (Below.refl _ _) rfl
  · refine step_plain [25] (by kernel_rfl) rfl fun us w' hG hV => ?_
    have e25 : us 25 = .int .i64 32 := hV 25 (by simp)
    have v25 := (frame_at2 (us := us) hl (show (TuST[95]?).join = some 25 from rfl)).trans e25
    have hw : IntKind.i64.wrap 34 = 34 := by decide
    generalize frame TuST a0 us = fr at *
    exact val_ok (v := .int .i64 34) (w' := w') (by go_simp) hG (Below.refl _ _) rfl
  · refine step_plain [21, 23, 26] (by kernel_rfl) rfl fun us w' hG hV => ?_
    have e21 : us 21 = .slice B 44 c := hV 21 (by simp)
    have v21 := (frame_at2 (us := us) hl (show (TuST[91]?).join = some 21 from rfl)).trans e21
    have e23 : us 23 = .int .i64 32 := hV 23 (by simp)
    have v23 := (frame_at2 (us := us) hl (show (TuST[93]?).join = some 23 from rfl)).trans e23
    have e26 : us 26 = .int .i64 34 := hV 26 (by simp)
    have v26 := (frame_at2 (us := us) hl (show (TuST[96]?).join = some 26 from rfl)).trans e26
    have hs := Y4.out w'
    generalize frame TuST a0 us = fr at *
    exact val_ok (v := .slice X4 2 d4) (w' := w') (by go_simp) hG (Below.refl _ _) rfl
  · refine step_plain [27] (by kernel_rfl) rfl fun us w' hG hV => ?_
    have e27 : us 27 = .slice X4 2 d4 := hV 27 (by simp)
    have v27 := (frame_at2 (us := us) hl (show (TuST[97]?).join = some 27 from rfl)).trans e27
    have hs := Z4.out w' hG
    generalize frame TuST a0 us = fr at *
    exact val_ok (v := .string S4) (w' := w') (by go_simp) hG (Below.refl _ _) rfl
  · refine step_plain [20, 28] (by kernel_rfl) rfl fun us w' hG hV => ?_
    have e20 : us 20 = .string (S1 ++ S2 ++ S3) := hV 20 (by simp)
    have v20 := (frame_at2 (us := us) hl (show (TuST[90]?).join = some 20 from rfl)).trans e20
    have e28 : us 28 = .string S4 := hV 28 (by simp)
    have v28 := (frame_at2 (us := us) hl (show (TuST[98]?).join = some 28 from rfl)).trans e28
    have hz1 := N1.out
    have hz2 := N2.out
    have hz3 := N3.out
    have hz4 := N4.out
    have hz5 := N5.out
    have hz6 := N6.out
    generalize frame TuST a0 us = fr at *
    exact val_ok (v := .string (S1 ++ S2 ++ S3 ++ S4)) (w' := w') (by go_simp) hG (Below.refl _ _) rfl
  · refine step_plain [] (by kernel_rfl) rfl fun us w' hG hV => ?_
    have o9 := (frame_old2 (us := us) (a := a0) (show (TuST[9]?).join = none from rfl)).trans k9
    generalize frame TuST a0 us = fr at *
    exact val_ok (v := .slice B 44 c) (w' := w') (by go_simp) hG (Below.refl _ _) rfl
  · refine step_plain [] (by kernel_rfl) rfl fun us w' hG hV => ?_
    have o11 := (frame_old2 (us := us) (a := a0) (show (TuST[11]?).join = none from rfl)).trans k11
    generalize frame TuST a0 us = fr at *
    exact val_ok (v := .int .i64 16) (w' := w') (by go_simp) hG (Below.refl _ _) rfl
  · refine step_plain [31] (by kernel_rfl) rfl fun us w' hG hV => ?_
    have e31 : us 31 = .int .i64 16 := hV 31 (by simp)
    have v31 := (frame_at2 (us := us) hl (show (TuST[101]?).join = some 31 from rfl)).trans e31
    have hw : IntKind.i64.wrap 32 = 32 := by decide
    generalize frame TuST a0 us = fr at *
    exact val_ok (v := .int .i64 32) (w' := w') (by go_simp) hG (Below.refl _ _) rfl
  · refine step_plain [32] (by kernel_rfl) rfl fun us w' hG hV => ?_
    have e32 : us 32 = .int .i64 32 := hV 32 (by simp)
    have v32 := (frame_at2 (us := us) hl (show (TuST[102]?).join = some 32 from rfl)).trans e32
    have hw : IntKind.i64.wrap 40 = 40 := by decide
    generalize frame TuST a0 us = fr at *
    exact val_ok (v := .int .i64 40) (w' := w') (by go_simp) hG (Below.refl _ _) rfl
  · refine step_plain [30, 33] (by kernel_rfl) rfl fun us w' hG hV => ?_
    have e30 : us 30 = .slice B 44 c := hV 30 (by simp)
    have v30 := (frame_at2 (us := us) hl (show (TuST[100]?).join = some 30 from rfl)).trans e30
    have e33 : us 33 = .int .i64 40 := hV 33 (by simp)
    have v33 := (frame_at2 (us := us) hl (show (TuST[103]?).join = some 33 from rfl)).trans e33
    have hs := Y5.out w'
    generalize frame TuST a0 us = fr at *
    exact val_ok (v := .slice X5 4 d5) (w' := w') (by go_simp) hG (Below.refl _ _) rfl
  · refine step_plain [34] (by kernel_rfl) rfl fun us w' hG hV => ?_
    have e34 : us 34 = .slice X5 4 d5 := hV 34 (by simp)
    have v34 := (frame_at2 (us := us) hl (show (TuST[104]?).join = some 34 from rfl)).trans e34
    have hs := Z5.out w' hG
    generalize frame TuST a0 us = fr at *
    exact val_ok (v := .string S5) (w' := w') (by go_simp) hG (Below.refl _ _) rfl
  · refine step_plain [29, 35] (by kernel_rfl) rfl fun us w' hG hV => ?_
    have e29 : us 29 = .string (S1 ++ S2 ++ S3 ++ S4) := hV 29 (by simp)
    have v29 := (frame_at2 (us := us) hl (show (TuST[99]?).join = some 29 from rfl)).trans e29
    have e35 : us 35 = .string S5 := hV 35 (by simp)
    have v35 := (frame_at2 (us := us) hl (show (TuST[105]?).join = some 35 from rfl)).trans e35
    have hz1 := N1.out
    have hz2 := N2.out
    have hz3 := N3.out
    have hz4 := N4.out
    have hz5 := N5.out
    have hz6 := N6.out
    generalize frame TuST a0 us = fr at *
    exact val_ok (v := .string (S1 ++ S2 ++ S3 ++ S4 ++ S5)) (w' := w') (by go_simp) hG (Below.refl _ _) rfl
  · refine step_plain [] (by kernel_rfl) rfl fun us w' hG hV => ?_
    have o9 := (frame_old2 (us := us) (a := a0) (show (TuST[9]?).join = none from rfl)).trans k9
    generalize frame TuST a0 us = fr at *
    exact val_ok (v := .slice B 44 c) (w' := w') (by go_simp) hG (Below.refl _ _) rfl
  · refine step_plain [] (by kernel_rfl) rfl fun us w' hG hV => ?_
    have o11 := (frame_old2 (us := us) (a := a0) (show (TuST[11]?).join = none from rfl)).trans k11
    generalize frame TuST a0 us = fr at *
    exact val_ok (v := .int .i64 16) (w' := w') (by go_simp) hG (Below.refl _ _) rfl
  · refine step_plain [38] (by kernel_rfl) rfl fun us w' hG hV => ?_
    have e38 : us 38 = .int .i64 16 := hV 38 (by simp)
    have v38 := (frame_at2 (us := us) hl (show (TuST[108]?).join = some 38 from rfl)).trans e38
    have hw : IntKind.i64.wrap 32 = 32 := by decide
    generalize frame TuST a0 us = fr at *
    exact val_ok (v := .int .i64 32) (w' := w') (by go_simp) hG (Below.refl _ _) rfl
  · refine step_plain [39] (by kernel_rfl) rfl fun us w' hG hV => ?_
    have e39 : us 39 = .int .i64 32 := hV 39 (by simp)
    have v39 := (frame_at2 (us := us) hl (show (TuST[109]?).join = some 39 from rfl)).trans e39
    have hw : IntKind.i64.wrap 36 = 36 := by decide
    generalize frame TuST a0 us = fr at *
    exact val_ok (v := .int .i64 36) (w' := w') (by go_simp) hG (Below.refl _ _) rfl
  · refine step_plain [] (by kernel_rfl) rfl fun us w' hG hV => ?_
    have o11 := (frame_old2 (us := us) (a := a0) (show (TuST[11]?).join = none from rfl)).trans k11
    generalize frame TuST a0 us = fr at *
    exact val_ok (v := .int .i64 16) (w' := w') (by go_simp) hG (Below.refl _ _) rfl
  · refine step_plain [41] (by kernel_rfl) rfl fun us w' hG hV => ?_
    have e41 : us 41 = .int .i64 16 := hV 41 (by simp)
    have v41 := (frame_at2 (us := us) hl (show (TuST[111]?).join = some 41 from rfl)).trans e41
    have hw : IntKind.i64.wrap 32 = 32 := by decide
    generalize frame TuST a0 us = fr at *
    exact val_ok (v := .int .i64 32) (w' := w') (by go_simp) hG (Below.refl _ _) rfl
  · refine step_plain [42] (by kernel_rfl) rfl fun us w' hG hV => ?_
    have e42 : us 42 = .int .i64 32 := hV 42 (by simp)
    have v42 := (frame_at2 (us := us) hl (show (TuST[112]?).join = some 42 from rfl)).trans e42
    have hw : IntKind.i64.wrap 40 = 40 := by decide
    generalize frame TuST a0 us = fr at *
    exact val_ok (v := .int .i64 40) (w' := w') (by go_simp) hG (Below.refl _ _) rfl
  · refine step_plain [37, 40, 43] (by kernel_rfl) rfl fun us w' hG hV => ?_
    have e37 : us 37 = .slice B 44 c := hV 37 (by simp)
    have v37 := (frame_at2 (us := us) hl (show (TuST[107]?).join = some 37 from rfl)).trans e37
    have e40 : us 40 = .int .i64 36 := hV 40 (by simp)
    have v40 := (frame_at2 (us := us) hl (show (TuST[110]?).join = some 40 from rfl)).trans e40
    have e43 : us 43 = .int .i64 40 := hV 43 (by simp)
    have v43 := (frame_at2 (us := us) hl (show (TuST[113]?).join = some 43 from rfl)).trans e43
    have hs := Y6.out w'
    generalize frame TuST a0 us = fr at *
    exact val_ok (v := .slice X6 4 d6) (w' := w') (by go_simp) hG (Below.refl _ _) rfl
  · refine step_plain [44] (by kernel_rfl) rfl fun us w' hG hV => ?_
    have e44 : us 44 = .slice X6 4 d6 := hV 44 (by simp)
    have v44 := (frame_at2 (us := us) hl (show (TuST[114]?).join = some 44 from rfl)).trans e44
    have hs := Z6.out w' hG
    generalize frame TuST a0 us = fr at *
    exact val_ok (v := .string S6) (w' := w') (by go_simp) hG (Below.refl _ _) rfl
  · refine step_plain [36, 45] (by kernel_rfl) rfl fun us w' hG hV => ?_
    have e36 : us 36 = .string (S1 ++ S2 ++ S3 ++ S4 ++ S5) := hV 36 (by simp)
    have v36 := (frame_at2 (us := us) hl (show (TuST[106]?).join = some 36 from rfl)).trans e36
    have e45 : us 45 = .string S6 := hV 45 (by simp)
    have v45 := (frame_at2 (us := us) hl (show (TuST[115]?).join = some 45 from rfl)).trans e45
    have hz1 := N1.out
    have hz2 := N2.out
    have hz3 := N3.out
    have hz4 := N4.out
    have hz5 := N5.out
    have hz6 := N6.out
    generalize frame TuST a0 us = fr at *
    exact val_ok (v := .string (S1 ++ S2 ++ S3 ++ S4 ++ S5 ++ S6)) (w' := w') (by go_simp) hG (Below.refl _ _) rfl
  · refine step_plain [46] (by kernel_rfl) rfl fun us w' hG hV => ?_
    have e46 : us 46 = .string (S1 ++ S2 ++ S3 ++ S4 ++ S5 ++ S6) := hV 46 (by simp)
    have v46 := (frame_at2 (us := us) hl (show (TuST[116]?).join = some 46 from rfl)).trans e46
    generalize frame TuST a0 us = fr at *
    exact val_ok (v := .string (S1 ++ S2 ++ S3 ++ S4 ++ S5 ++ S6)) (w' := w') (by go_simp) hG (Below.refl _ _) rfl
  · intro us w6 hG hV
    have eL : us 47 = .string (S1 ++ S2 ++ S3 ++ S4 ++ S5 ++ S6) := hV 47 (by decide)
    rw [HS.out] at eL
    have hc := CA.out w6 hG
    have BQ := Lib.hid (HB4.out.trans (hG.mono HB4.out.size))
    subst ha0
    simp only [frame, TuST, fill]
    rw [eL]
    clear hV hl k9 k11 hG eL
    go_wp2_with (first
      | (go_at_call 10; refine (alive_any _).mono ?_; rintro e w9 ⟨rfl, B9⟩))
    go_ret
    exact ⟨rfl, BQ.out.trans (B9.mono BQ.out.size)⟩
theorem turned_walk (cs C1 C2 : Array Value) (s1 s2 : Bool) (b1 b2 : List Int) (p1 p2 i1 i2 : Int) (w : World) (hp : PairC cs C1 C2) (h1 : EndC C1 s1 b1 p1) (h2 : EndC C2 s2 b2 p2) (l1 : 0 ≤ i1) (m1 : i1 ≤ 4294967295) (l2 : 0 ≤ i2) (m2 : i2 ≤ 4294967295) :
    Calls Try.prog 6 #[.agg cs, .int .u32 i1, .int .u32 i2] w (AliveRet w) := by
  by_cases h : s1 = s2
  · subst h
    cases s1
    · exact turned_four cs C1 C2 b1 b2 p1 p2 i1 i2 w hp h1 h2 l1 m1 l2 m2
    · exact turned_six cs C1 C2 b1 b2 p1 p2 i1 i2 w hp h1 h2 l1 m1 l2 m2
  · exact turned_unlike cs C1 C2 s1 s2 b1 b2 p1 p2 i1 i2 w hp h1 h2 h
end Go.Proofs.Ythbgjjfhgbkbdaa.kdC
