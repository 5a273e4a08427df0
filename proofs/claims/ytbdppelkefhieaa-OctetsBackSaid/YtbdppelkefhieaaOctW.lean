/-
  The walk of the third statement of octets.
-/
import Derived.Test.YtbdppelkefhieaaOctV
namespace Go.Proofs.Ytbdppelkefhieaa.octC
open Go.ChangeShapes Go.WideShapes Go.ChangeAt Go.RowKit
open Go.Proofs.Ytbdppelkefhieaa.memC
set_option linter.unusedVariables false
theorem alive_past {w w1 : World} (B : Below w.heap.size w w1) : Calls Try.prog 9 #[] w1 (AliveRet w) :=
  (alive_any w1).mono fun e w' h => ⟨h.1, B.trans (h.2.mono B.size)⟩
set_option maxRecDepth 100000 in
set_option maxHeartbeats 1000000 in
theorem backs_long (size : Int) (A2 : Option Addr) (m c2 : Nat) (A : Option Addr) (n c : Nat) (w : World) (h1 : -9223372036854775808 ≤ size) (h2 : size ≤ 9223372036854775807) (hm : m ≤ 9223372036854775807) (hn : n ≤ 9223372036854775807) (h : 300 < m ∨ 3000 < n ∨ size < 0 ∨ 8 < size) :
    Calls Try.prog 5 #[.int .i64 size, .slice A2 m c2, .slice A n c] w (AliveRet w) := by
  have B : Below w.heap.size w ((w.alloc (.cells #[.int .i64 size] 3)).alloc (.cells #[.slice A2 m c2] 23)) := ((Below.refl _ _).alloc (Nat.le_refl _) _).alloc (by simp) _
  have AP := Lib.hid (alive_past B)
  clear B
  by_cases c1 : 300 < m
  · clear h
    go_enter Try.func5, Try.ntmps5
    go_wp2_with (first
      | (go_at_call 8; refine (long_any _ _ _ _ hn).mono ?_; rintro e w' ⟨rfl, rfl⟩)
      | (go_at_call 9; refine AP.out.mono ?_; rintro e w' ⟨rfl, hg⟩))
    go_ret
    exact ⟨rfl, hg⟩
  · by_cases c3 : 3000 < n
    · have d1 : decide (3000 < n) = true := by simpa using c3
      clear h c3
      go_enter Try.func5, Try.ntmps5
      go_wp2_with (first
        | (go_at_call 8; refine (long_any _ _ _ _ hn).mono ?_; rintro e w' ⟨rfl, rfl⟩)
        | (go_at_call 9; refine AP.out.mono ?_; rintro e w' ⟨rfl, hg⟩))
      go_ret
      exact ⟨rfl, hg⟩
    · have d1 : decide (3000 < n) = false := by simpa using c3
      by_cases c4 : size < 0
      · clear h c3
        go_enter Try.func5, Try.ntmps5
        go_wp2_with (first
          | (go_at_call 8; refine (long_any _ _ _ _ hn).mono ?_; rintro e w' ⟨rfl, rfl⟩)
          | (go_at_call 9; refine AP.out.mono ?_; rintro e w' ⟨rfl, hg⟩))
        go_ret
        exact ⟨rfl, hg⟩
      · have c5 : 8 < size := by omega
        clear h c3
        go_enter Try.func5, Try.ntmps5
        go_wp2_with (first
          | (go_at_call 8; refine (long_any _ _ _ _ hn).mono ?_; rintro e w' ⟨rfl, rfl⟩)
          | (go_at_call 9; refine AP.out.mono ?_; rintro e w' ⟨rfl, hg⟩))
        go_ret
        exact ⟨rfl, hg⟩
theorem RB.alloc {pn ps pk pr p : Nat} {A2 : Option Addr} {m c2 s : Nat} {ns rest : List Int} {w : World} (h : RB pn ps pk pr p A2 m c2 s ns rest w w 0) (o : Obj) : RB pn ps pk pr p A2 m c2 s ns rest (w.alloc o) (w.alloc o) 0 := by
  have B : Below w.heap.size w (w.alloc o) := (Below.refl _ _).alloc (Nat.le_refl _) _
  obtain ⟨A, n, c, h1, h2, h3, N, h4, h5⟩ := h.rd
  exact ⟨Fr.refl _, (B.cell (p := ⟨pn, 0, none⟩) (World.block_lt_of_cell? _ _ h.cn)).trans h.cn, (B.cell (p := ⟨ps, 0, none⟩) (World.block_lt_of_cell? _ _ h.cs)).trans h.cs, (B.cell (p := ⟨pk, 0, none⟩) (World.block_lt_of_cell? _ _ h.ck)).trans h.ck,
    (B.frozen (p := ⟨pk, 0, none⟩) (World.block_lt_of_cell? _ _ h.ck)).trans h.fk, (B.cell (p := ⟨pr, 0, none⟩) (World.block_lt_of_cell? _ _ h.cr)).trans h.cr,
    A, n, c, (B.cell (p := ⟨p, 0, none⟩) h3).trans h1, (B.frozen (p := ⟨p, 0, none⟩) h3).trans h2, Nat.lt_of_lt_of_le h3 B.size, N.below (B.mono (Nat.le_of_lt h3)), h4, h5⟩
section
variable {P : Program} {ops : Array Oper} {rest : List Oper} {o : Oper} {a : Act} {Q : Exit → Act → World → Prop}
/-- append(own, numbers...), the slice that comes written out -/
theorem wpList_appS {k : IntKind} (w : World) (hgd : o.guard = none) (s x : Operand) (t : TypeId)
    (ho : o.op = .call { callee := .builtin .append, args := #[s, x], argTypes := #[t, t] })
    (e : TypeId) (i : TypeInfo) (z : Value) (bytes : Nat) (ht : P.underlying t = some (.slice e)) (hi : P.info? e = some i) (hz : i.zero = some z)
    (hsize : i.size = 1) (hby : i.bytes = bytes) (hzs : z.cells.size = 1) (base : Nat) (v : Value) (xs : List Int) (hs : a.eval s = v) (hown : Own k e w base v xs)
    (B : Nat) (A : Option Addr) (m c : Nat) (news : List Int) (hx : a.eval x = .slice A m c) (hr : Nums k w B A m news) (h63 : xs.length + m ≤ maxLen) (hbytes : (xs.length + m) * bytes ≤ 140737488355328) (hbase : base ≤ w.heap.size) (L : Nat) (hL : xs.length + m = L)
    (h : ∀ A' c' w', L ≤ c' → c' ≤ maxLen → Nums k w' w'.heap.size A' L (xs ++ news) → Below base w w' → wpList P ops Q rest (a.put o.dst (.slice A' L c')) w') : wpList P ops Q (o :: rest) a w :=
  wpList_app w hgd s x t ho e i z bytes ht hi hz hsize hby hzs base v xs hs hown B A m c news hx hr h63 hbytes hbase fun v' w' h1 h2 => by
    have e : (xs ++ news).length = L := by rw [List.length_append, hr.len]; exact hL
    obtain ⟨A', c', e2, g1, g2, N⟩ := h1.form
    rw [e] at e2 g1 N
    subst e2
    exact h A' c' w' g1 g2 N (grown_below h2 hbase fun g hg => (hown.blk g hg).1)
end
theorem ent_back (cap : Array Value) (w : World) : (callFunc 21 cap).run Try.prog w = .ok (.enter 21 cap) w := by go_simp
def TryBack (pk p : Nat) (rest : List Int) (w : World) (e : Ending) (w' : World) : Prop := e = .returned (.int .i64 0) ∧ Fr (fun x => x = pk ∨ x = p) w w' ∧ (w'.cell? ⟨pk, 0, none⟩ = some (.bool true) ∧ Rd w' p rest)
theorem try_back (pn ps pk pr p : Nat) (A2 : Option Addr) (m c2 s B : Nat) (ns rest : List Int) (w : World) (h0 : RB pn ps pk pr p A2 m c2 s ns rest w w 0) (N : Nums .u64 w B A2 m ns) (hs : s ≤ 8) (hm : m ≤ 300)
    (d1 : pn ≠ pk) (d2 : pn ≠ p) (d3 : ps ≠ pk) (d4 : ps ≠ p) (d5 : pr ≠ pk) (d6 : pr ≠ p) (d7 : p < pk) (d8 : B ≤ p) (d9 : B ≤ pk) (hB : B ≤ w.heap.size) (hx : ∀ x ∈ ns, 0 ≤ x ∧ x ≤ 18446744073709551615) (hy : ∀ x ∈ rest, Byte x) :
    Calls Try.prog 20 #[.func (.func 21) #[] #[.pointer (some ⟨pn, 0, none⟩), .pointer (some ⟨ps, 0, none⟩), .pointer (some ⟨pk, 0, none⟩), .pointer (some ⟨pr, 0, none⟩)]] w (TryBack pk p rest w) := by
  have lk : pk < w.heap.size := World.block_lt_of_cell? _ _ h0.ck
  obtain ⟨_, _, _, _, _, lp, _⟩ := h0.rd
  have Ba : Below w.heap.size w (w.alloc (.cells #[.int .i64 0] 31)) := (Below.refl _ _).alloc (Nat.le_refl _) _
  refine try_end _ _ w (fun x => x = pk ∨ x = p) (fun w' => w'.cell? ⟨pk, 0, none⟩ = some (.bool true) ∧ Rd w' p rest) (fun k hk => by rcases hk with rfl | rfl; exact lk; exact lp) (ent_back _)
    (fun w1 w2 hB h => ⟨(hB.cell (p := ⟨pk, 0, none⟩) lk).trans h.1, ?_⟩)
    (back_reading pn ps pk pr p A2 m c2 s B ns rest _ (h0.alloc _) (N.below (Ba.mono hB)) hs hm d1 d2 d3 d4 d5 d6 d7 d8 d9 (Nat.le_trans hB Ba.size) hx hy)
  obtain ⟨A, n, c, h1, h2, h3, N', h4, h5⟩ := h.2
  exact ⟨A, n, c, (hB.cell (p := ⟨p, 0, none⟩) lp).trans h1, (hB.frozen (p := ⟨p, 0, none⟩) lp).trans h2, Nat.lt_of_lt_of_le h3 hB.size, N'.below (hB.mono (Nat.le_of_lt lp)), h4, h5⟩
set_option maxRecDepth 100000 in
set_option maxHeartbeats 1000000 in
theorem backs_short (s : Nat) (A2 : Option Addr) (m c2 : Nat) (A : Option Addr) (n c : Nat) (ns bs : List Int) (w : World) (hs : s ≤ 8) (hm : m ≤ 300) (hn : n ≤ 3000) (N2 : Nums .u64 w w.heap.size A2 m ns) (N : Nums .u8 w w.heap.size A n bs)
    (hx : ∀ x ∈ ns, 0 ≤ x ∧ x ≤ 18446744073709551615) (hy : ∀ x ∈ bs, Byte x) :
    Calls Try.prog 5 #[.int .i64 (s : Int), .slice A2 m c2, .slice A n c] w (AliveRet w) := by
  have hmf : ∀ (fn : Fn) (first cap : Array Value) (w : World), (Instr.makeFunc fn first cap).run Try.prog w = .ok (.func fn first cap) w := fun _ _ _ _ => rfl
  obtain ⟨i0, hi0, hz0, hz1, hz2⟩ := info_parts byte_info
  have T1 := Lib.hid hi0; have T2 := Lib.hid hz0; have T3 := Lib.hid hz1; have T4 := Lib.hid hz2
  clear hi0 hz0 hz1 hz2
  have B : Below w.heap.size w ((w.alloc (.cells #[.int .i64 (s : Int)] 3)).alloc (.cells #[.slice A2 m c2] 23)) := ((Below.refl _ _).alloc (Nat.le_refl _) _).alloc (by simp) _
  have hsz : ((w.alloc (.cells #[.int .i64 (s : Int)] 3)).alloc (.cells #[.slice A2 m c2] 23)).heap.size = w.heap.size + 1 + 1 := by simp
  have CS := Lib.hid (show ((w.alloc (.cells #[.int .i64 (s : Int)] 3)).alloc (.cells #[.slice A2 m c2] 23)).cell? ⟨w.heap.size, 0, none⟩ = some (.int .i64 (s : Int)) by go_simp)
  have CN := Lib.hid (show ((w.alloc (.cells #[.int .i64 (s : Int)] 3)).alloc (.cells #[.slice A2 m c2] 23)).cell? ⟨w.heap.size + 1, 0, none⟩ = some (.slice A2 m c2) by go_simp)
  have P := put_ret none 0 0 (s : Int) A2 m c2 [] ns _ (by omega) (by omega) (Nums.none_ 0) ((N2.below B).more B.size) (by omega) hm
  have eP : putL [] (fitN s) ns = ns.flatMap (numL s) := by rw [fitN_nat hs]; simp [putL]
  rw [eP] at P
  have PP := Lib.hid P
  obtain ⟨q, hq⟩ : ∃ q, q = s * m := ⟨_, rfl⟩
  have hq8 : q ≤ 2400 := by rw [hq]; exact Nat.mul_le_mul hs hm
  have hqz : (s : Int) * (m : Int) = (q : Int) := by rw [hq]; simp
  have hfl : (ns.flatMap (numL s)).length = q := by rw [flat_len, N2.len, hq]
  obtain ⟨F, eF⟩ : ∃ F, F = ns.flatMap (numL s) := ⟨_, rfl⟩
  rw [← eF] at hfl PP
  have EF := Lib.hid eF
  have HQ := Lib.hid hq
  have d1 : decide (3000 < n) = false := by simpa using hn
  have HZ := Lib.hid hsz
  clear P eP hq eF hsz
  subst hfl
  go_enter Try.func5, Try.ntmps5
  go_wp2_with (first
    | (go_at_call 8; refine (long_any _ _ _ _ (by omega)).mono ?_; rintro e w' ⟨rfl, rfl⟩)
    | (go_at_call 10; refine PP.out.mono ?_; rintro e w1 ⟨A3, c3, rfl, O1, g1, g1', N3, B1⟩
       rw [HZ.out] at O1 B1
       have f1 := (B1.cell (p := ⟨w.heap.size, 0, none⟩) (by show w.heap.size < _; omega)).trans CS.out
       have f2 := (B1.cell (p := ⟨w.heap.size + 1, 0, none⟩) (by show w.heap.size + 1 < _; omega)).trans CN.out
       have N1 := N.below (B.trans (B1.mono (by omega)))
       have hz1 := B1.size
       rw [HZ.out] at hz1)
    | (at_builtin; (refine wpList_appS _ rfl (.tmp 37) (.tmp 38) _ rfl 5 i0 _ 1 Try.underlying22 T1.out T2.out T3.out T4.out rfl (w.heap.size + 1 + 1) _ F rfl O1 w.heap.size A n c bs rfl N1 (by simp only [maxLen]; omega) (by omega) (by omega) (F.length + n) rfl ?_)
       intro A4 c4 w2 g4 g4' N4 B2
       have hz2 := B2.size)
    | (go_at_call 19; refine (read_any _ _ _ (F ++ bs) _ N4 (by omega)).mono ?_
       rintro e w3 ⟨p, rfl, hp, R, B3⟩
       have hz3 := B3.size))
  obtain ⟨A5, n5, c5, r1, r2, lp, N5, r4, r5⟩ := R
  have R : Rd w3 p (F ++ bs) := ⟨A5, n5, c5, r1, r2, lp, N5, r4, r5⟩
  have Bw3 : Below w.heap.size w w3 := (B.trans (B1.mono (by omega))).trans ((B2.mono (by omega)).trans (B3.mono (by omega)))
  have BB : Below w3.heap.size w3 ((w3.alloc (.cells #[.pointer (some ⟨p, 0, none⟩)] 39)).alloc (.cells #[.bool true] 4)) := ((Below.refl _ _).alloc (Nat.le_refl _) _).alloc (by simp) _
  have k1 := (B3.cell (p := ⟨w.heap.size, 0, none⟩) (by show w.heap.size < _; omega)).trans ((B2.cell (p := ⟨w.heap.size, 0, none⟩) (by show w.heap.size < _; omega)).trans f1)
  have k2 := (B3.cell (p := ⟨w.heap.size + 1, 0, none⟩) (by show w.heap.size + 1 < _; omega)).trans ((B2.cell (p := ⟨w.heap.size + 1, 0, none⟩) (by show w.heap.size + 1 < _; omega)).trans f2)
  have RB0 : RB (w.heap.size + 1) w.heap.size (w3.heap.size + 1) w3.heap.size p A2 m c2 s ns bs ((w3.alloc (.cells #[.pointer (some ⟨p, 0, none⟩)] 39)).alloc (.cells #[.bool true] 4)) ((w3.alloc (.cells #[.pointer (some ⟨p, 0, none⟩)] 39)).alloc (.cells #[.bool true] 4)) 0 := by
    refine ⟨Fr.refl _, (BB.cell (p := ⟨w.heap.size + 1, 0, none⟩) (World.block_lt_of_cell? _ _ k2)).trans k2, (BB.cell (p := ⟨w.heap.size, 0, none⟩) (World.block_lt_of_cell? _ _ k1)).trans k1, by go_simp, by go_simp, by go_simp, ?_⟩
    rw [List.drop_zero, ← EF.out]
    exact ⟨A5, n5, c5, (BB.cell (p := ⟨p, 0, none⟩) lp).trans r1, (BB.frozen (p := ⟨p, 0, none⟩) lp).trans r2, Nat.lt_of_lt_of_le lp BB.size, N5.below (BB.mono (Nat.le_of_lt lp)), r4, r5⟩
  have Bw5 : Below w.heap.size w ((w3.alloc (.cells #[.pointer (some ⟨p, 0, none⟩)] 39)).alloc (.cells #[.bool true] 4)) := Bw3.trans (BB.mono Bw3.size)
  have TB := Lib.hid (try_back _ _ _ _ _ _ _ _ s w.heap.size ns bs _ RB0 (N2.below Bw5) hs hm (by omega) (by omega) (by omega) (by omega) (by omega) (by omega) (by omega) (by omega) (by omega) Bw5.size hx hy)
  have hsz5 : ((w3.alloc (.cells #[.pointer (some ⟨p, 0, none⟩)] 39)).alloc (.cells #[.bool true] 4)).heap.size = w3.heap.size + 1 + 1 := by simp
  have cr := RB0.cr
  generalize ((w3.alloc (.cells #[.pointer (some ⟨p, 0, none⟩)] 39)).alloc (.cells #[.bool true] 4)) = W5 at *
  have HZ5 := Lib.hid hsz5
  have CR := Lib.hid cr
  have HN := Lib.hid N.len
  clear k1 k2 r1 r2 f1 f2 N5 R BB RB0 O1 N3 N4 N1 B1 B2 B3 hsz5 cr hqz
  go_wp2_with (first
    | (go_at_call 20; refine TB.out.mono ?_; rintro e w6 ⟨rfl, F6, ck, A6, n6, c6, r1, r2, r3, N6, r4, r5⟩
       have e6 : n6 = n := by rw [← N6.len, HN.out]
       rw [e6] at r1
       have cr6 := (F6.cell (a := ⟨w3.heap.size, 0, none⟩) (by rw [HZ5.out]; show w3.heap.size < _; omega) (fun h => by have h : w3.heap.size = w3.heap.size + 1 ∨ w3.heap.size = p := h; omega)).trans CR.out
       have B6 : Below w.heap.size w w6 := Bw5.trans (F6.to_below (fun k hk => by omega) Bw5.size)
       have LL := Lib.hid (left_some p A6 n c6 w6 r1)
       have AP := Lib.hid (alive_past B6)
       clear e6 r1 r2)
    | (go_at_call 23; refine LL.out.mono ?_; rintro e w' ⟨rfl, rfl⟩)
    | (go_at_call 9; refine AP.out.mono ?_; rintro e w' ⟨rfl, hg⟩))
  go_ret
  exact ⟨rfl, hg⟩
theorem backs_walk (size : Int) (A2 : Option Addr) (m c2 : Nat) (A : Option Addr) (n c : Nat) (ns bs : List Int) (w : World) (h1 : -9223372036854775808 ≤ size) (h2 : size ≤ 9223372036854775807) (hm : m ≤ 9223372036854775807) (hn : n ≤ 9223372036854775807)
    (N2 : Nums .u64 w w.heap.size A2 m ns) (N : Nums .u8 w w.heap.size A n bs) (hx : ∀ x ∈ ns, 0 ≤ x ∧ x ≤ 18446744073709551615) (hy : ∀ x ∈ bs, Byte x) :
    Calls Try.prog 5 #[.int .i64 size, .slice A2 m c2, .slice A n c] w (AliveRet w) := by
  by_cases h : 300 < m ∨ 3000 < n ∨ size < 0 ∨ 8 < size
  · exact backs_long size A2 m c2 A n c w h1 h2 hm hn h
  · obtain ⟨s, rfl⟩ : ∃ s : Nat, size = (s : Int) := ⟨size.toNat, by omega⟩
    exact backs_short s A2 m c2 A n c ns bs w (by omega) (by omega) (by omega) N2 N hx hy
end Go.Proofs.Ytbdppelkefhieaa.octC
