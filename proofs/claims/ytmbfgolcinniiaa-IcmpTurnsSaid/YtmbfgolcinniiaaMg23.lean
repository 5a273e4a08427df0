/-
  3 texts of a proof, joined.
-/
import Derived.Test.YtmbfgolcinniiaaMg20
import Derived.WalkSpells
import Derived.WalkLawsBesides
import Derived.Defers
import Derived.Recover
import Derived.Laws.Pointers

/-
  What a reader does: Read, Left, take, Num.
-/
namespace Go.Proofs.Ytmbfgolcinniiaa.octC
open Go.ChangeShapes Go.WideShapes Go.ChangeAt Go.RowKit
open Go.Proofs.Ytmbfgolcinniiaa.memC
set_option linter.unusedVariables false
/-- a reader at block p, with bs left -/
def Rd (w : World) (p : Nat) (bs : List Int) : Prop := ∃ A n c, w.cell? ⟨p, 0, none⟩ = some (.slice A n c) ∧ w.frozen? ⟨p, 0, none⟩ = false ∧ p < w.heap.size ∧ Nums .u8 w p A n bs ∧ n ≤ c ∧ c ≤ 9223372036854775807
def stopped : Ending := .panicked [{ v := .iface 94 (.agg #[]), recovered := false }]
theorem stopped_eq : stopped = .panicked [{ v := .iface 94 (.agg #[]), recovered := false }] := rfl
theorem clone_none (n c : Nat) (w : World) :
    Calls Try.prog 40 #[.slice none n c] w fun e w' => e = .returned (.slice none 0 0) ∧ w = w' := by
  have q := fun (w : World) (a : Option Addr) (n c n' c' : Nat) => Lib.run_eql_slice_nil (P := Try.prog) w _ _ a n c n' c' Try.underlying24
  go_enter Try.func40, Try.ntmps40
  go_wp2
  go_ret
  exact ⟨rfl, rfl⟩
def OwnRet (w : World) (bs : List Int) (e : Ending) (w' : World) : Prop := ∃ A c, e = .returned (.slice A bs.length c) ∧ Own .u8 5 w' w.heap.size (.slice A bs.length c) bs ∧ bs.length ≤ c ∧ c ≤ maxLen ∧ Nums .u8 w' w'.heap.size A bs.length bs ∧ Below w.heap.size w w'
theorem own_ret {w w' : World} {bs : List Int} {e : Ending} {v : Value} (he : e = .returned v) (O : Own .u8 5 w' w.heap.size v bs) (B : Below w.heap.size w w') : OwnRet w bs e w' := by
  obtain ⟨A, c, rfl, h1, h2, N⟩ := O.form
  exact ⟨A, c, he, O, h1, h2, N, B⟩
theorem clone_some (a : Addr) (n c : Nat) (bs : List Int) (w : World) (hb : Nums .u8 w w.heap.size (some a) n bs) (hn : n ≤ 100000) :
    Calls Try.prog 40 #[.slice (some a) n c] w (OwnRet w bs) := by
  have q := fun (w : World) (a : Option Addr) (n c n' c' : Nat) => Lib.run_eql_slice_nil (P := Try.prog) w _ _ a n c n' c' Try.underlying24
  obtain ⟨i0, hi0, hz0, hz1, hz2⟩ := info_parts byte_info
  have T1 := Lib.hid hi0; have T2 := Lib.hid hz0; have T3 := Lib.hid hz1; have T4 := Lib.hid hz2
  clear hi0 hz0 hz1 hz2
  have O1 : Own .u8 5 (w.alloc (.cells #[] 5)) w.heap.size (.slice (some ⟨w.heap.size, 0, none⟩) 0 0) [] := World.ownsRow_lit w #[] 0 (Nat.le_refl _) (Nat.zero_le _) rfl
  have B1 : Below w.heap.size w (w.alloc (.cells #[] 5)) := (Below.refl _ _).alloc (Nat.le_refl _) _
  go_enter Try.func40, Try.ntmps40
  go_wp2_with (at_builtin
               (refine wpList_app _ rfl (.tmp 5) (.tmp 6) _ rfl 5 i0 _ 1 Try.underlying24 T1.out T2.out T3.out T4.out rfl w.heap.size _ [] rfl O1 w.heap.size _ n c bs rfl (hb.below B1) (by simp only [maxLen, List.length_nil]; omega) (by simp only [List.length_nil]; omega) B1.size ?_)
               intro v2 w2 O2 hg2
               have B2 : Below w.heap.size w w2 := B1.grown hg2 B1.size fun g hg => (O1.blk g hg).1
               clear hg2)
  go_ret
  exact own_ret rfl (by simpa using O2) B2
theorem clone_any (A : Option Addr) (n c : Nat) (bs : List Int) (w : World) (hb : Nums .u8 w w.heap.size A n bs) (hn : n ≤ 100000) :
    Calls Try.prog 40 #[.slice A n c] w (OwnRet w bs) := by
  rcases A with _ | a
  · have h0 : n = 0 := by
      rcases Nat.eq_zero_or_pos n with h | h
      · exact h
      · obtain ⟨b, o, h, _⟩ := hb.at_ h; cases h
    subst h0
    obtain rfl := hb.zero
    exact (clone_none 0 c w).mono fun e w' ⟨he, hw⟩ => own_ret he (hw ▸ Own.nil _ _) (hw ▸ Below.refl _ _)
  · exact clone_some a n c bs w hb hn
def RdRet (w : World) (bs : List Int) (e : Ending) (w' : World) : Prop := ∃ p, e = .returned (.pointer (some ⟨p, 0, none⟩)) ∧ w.heap.size ≤ p ∧ Rd w' p bs ∧ Below w.heap.size w w'
theorem read_any (A : Option Addr) (n c : Nat) (bs : List Int) (w : World) (hb : Nums .u8 w w.heap.size A n bs) (hn : n ≤ 100000) :
    Calls Try.prog 37 #[.slice A n c] w (RdRet w bs) := by
  go_enter Try.func37, Try.ntmps37
  go_wp2_with (go_at_call 40
               refine (clone_any A n c bs _ hb hn).mono ?_
               rintro e w1 ⟨A', c', rfl, O, h1, h2, N, B⟩)
  go_ret
  unfold maxLen at h2
  refine ⟨w1.heap.size, rfl, B.size, ⟨A', bs.length, c', by go_simp, by go_simp, by simp, ?_, h1, by omega⟩, B.alloc B.size _⟩
  exact N.below ((Below.refl _ _).alloc (Nat.le_refl _) _)
theorem left_none (w : World) : Calls Try.prog 52 #[.pointer none] w fun e w' => e = .returned (.int .i64 0) ∧ w = w' := by
  go_enter Try.func52, Try.ntmps52
  go_wp2
  go_ret
  exact ⟨rfl, rfl⟩
theorem left_some (p : Nat) (A : Option Addr) (n c : Nat) (w : World) (h : w.cell? ⟨p, 0, none⟩ = some (.slice A n c)) :
    Calls Try.prog 52 #[.pointer (some ⟨p, 0, none⟩)] w fun e w' => e = .returned (.int .i64 n) ∧ w = w' := by
  go_enter Try.func52, Try.ntmps52
  go_wp2
  go_ret
  exact ⟨rfl, rfl⟩
theorem take_zero (a : Option Addr) (s : Int) (w : World) (hs : s ≤ 0) :
    Calls Try.prog 56 #[.pointer a, .int .i64 s] w fun e w' => e = .returned (.slice none 0 0) ∧ w = w' := by
  go_enter Try.func56, Try.ntmps56
  go_wp2_with fail
  go_ret
  exact ⟨rfl, rfl⟩
theorem take_none (s : Nat) (w : World) (hs : 0 < s) :
    Calls Try.prog 56 #[.pointer none, .int .i64 s] w fun e w' => e = stopped ∧ w = w' := by
  go_enter Try.func56, Try.ntmps56
  go_wp2_with (go_at_call 52; refine (left_none _).mono ?_; rintro e w' ⟨rfl, rfl⟩)
  exact ⟨rfl, rfl, rfl⟩
theorem take_stop (p : Nat) (A : Option Addr) (n c s : Nat) (w : World) (h : w.cell? ⟨p, 0, none⟩ = some (.slice A n c)) (hs : 0 < s) (hn : n < s) :
    Calls Try.prog 56 #[.pointer (some ⟨p, 0, none⟩), .int .i64 s] w fun e w' => e = stopped ∧ w = w' := by
  go_enter Try.func56, Try.ntmps56
  go_wp2_with (go_at_call 52; refine (left_some _ _ _ _ _ h).mono ?_; rintro e w' ⟨rfl, rfl⟩)
  exact ⟨rfl, rfl, rfl⟩
theorem take_ok (p : Nat) (A : Option Addr) (n c s : Nat) (w : World) (h : w.cell? ⟨p, 0, none⟩ = some (.slice A n c)) (hf : w.frozen? ⟨p, 0, none⟩ = false) (hs : 0 < s) (hn : s ≤ n) (hnc : n ≤ c) (hc : c ≤ 9223372036854775807) :
    Calls Try.prog 56 #[.pointer (some ⟨p, 0, none⟩), .int .i64 s] w fun e w' => e = .returned (.slice A s c) ∧
      w.setCell ⟨p, 0, none⟩ (.slice (if c = s then A else A.map (·.add s)) (n - s) (c - s)) = w' := by
  go_enter Try.func56, Try.ntmps56
  go_wp2_with (go_at_call 52; refine (left_some _ _ _ _ _ h).mono ?_; rintro e w' ⟨rfl, rfl⟩)
  all_goals
    go_ret
    exact ⟨rfl, rfl⟩
theorem last8_take (l : List Int) (s : Nat) (hs : s ≤ 8) : last8 (l.take s) = l.take s := by
  rw [last8, show (l.take s).length - 8 = 0 by rw [List.length_take]; omega]; rfl
theorem setCell_grown (w : World) (p : Nat) (v : Value) : w.grownBy (w.setCell ⟨p, 0, none⟩ v) (some p) :=
  ⟨rfl, rfl, rfl, by simp [World.setCell], fun k _ hk => Below.heap_setCell _ _ _ _ (by intro e; exact hk (by rw [e]))⟩
theorem Rd.set_ {w : World} {p : Nat} {bs : List Int} {s : Nat} {A : Option Addr} {n c : Nat} (h : w.cell? ⟨p, 0, none⟩ = some (.slice A n c)) (hf : w.frozen? ⟨p, 0, none⟩ = false) (hp : p < w.heap.size) (N : Nums .u8 w p A n bs) (hn : s ≤ n) (hnc : n ≤ c) (hc : c ≤ 9223372036854775807) :
    Rd (w.setCell ⟨p, 0, none⟩ (.slice (if c = s then A else A.map (·.add s)) (n - s) (c - s))) p (bs.drop s) :=
  ⟨(if c = s then A else A.map (·.add s)), n - s, c - s, by go_simp, by go_simp, by simpa [World.setCell] using hp, (N.cut hn hnc).below ((Below.refl _ _).setCell (p := ⟨p, 0, none⟩) (Nat.le_refl _) _), by omega, by omega⟩
def NumRet (w : World) (p : Nat) (bs : List Int) (s : Nat) (e : Ending) (w' : World) : Prop := e = .returned (.int .u64 (getZ (bs.take s))) ∧ Rd w' p (bs.drop s) ∧ w.grownBy w' (some p)
set_option maxRecDepth 100000 in
theorem num_zero (a : Option Addr) (size : Int) (w : World) (h1 : -9223372036854775808 ≤ size) (hs : size ≤ 0) :
    Calls Try.prog 49 #[.pointer a, .int .i64 size] w fun e w' => e = .returned (.int .u64 0) ∧ w = w' := by
  have e0 : (fitN size : Int) = 0 := by rw [fitN_eq]; omega
  go_enter Try.func49, Try.ntmps49
  go_wp2_with (first
    | (go_at_call 41; refine (fit_any _ _ h1 (by omega)).mono ?_; rintro e w' ⟨rfl, rfl⟩)
    | (go_at_call 56; refine (take_zero _ _ _ (by omega)).mono ?_; rintro e w' ⟨rfl, rfl⟩)
    | (go_at_call 55; refine (get_any none 0 0 [] _ (Nums.none_ 0) (by omega) (by omega) (by omega) (by simp)).mono ?_; rintro e w' ⟨rfl, rfl⟩))
  go_ret
  exact ⟨rfl, rfl⟩
set_option maxRecDepth 100000 in
theorem num_none (size : Int) (w : World) (h1 : 0 < size) (h2 : size ≤ 9223372036854775807) :
    Calls Try.prog 49 #[.pointer none, .int .i64 size] w fun e w' => e = stopped ∧ w = w' := by
  have e0 : 0 < fitN size := by have := fitN_eq size; omega
  go_enter Try.func49, Try.ntmps49
  go_wp2_with (first
    | (go_at_call 41; refine (fit_any _ _ (by omega) h2).mono ?_; rintro e w' ⟨rfl, rfl⟩)
    | (go_at_call 56; refine (take_none _ _ e0).mono ?_; rintro e w' ⟨he, rfl⟩; rw [stopped_eq] at he; subst he))
  exact ⟨rfl, rfl, rfl⟩
set_option maxRecDepth 100000 in
theorem num_stop (p : Nat) (bs : List Int) (size : Int) (w : World) (h : Rd w p bs) (h1 : -9223372036854775808 ≤ size) (h2 : size ≤ 9223372036854775807) (hs : bs.length < fitN size) :
    Calls Try.prog 49 #[.pointer (some ⟨p, 0, none⟩), .int .i64 size] w fun e w' => e = stopped ∧ w = w' := by
  obtain ⟨A, n, c, hc, hf, hp, N, hnc, hcm⟩ := h
  have hn : n < fitN size := by rw [← N.len]; exact hs
  clear hf
  have H := Lib.hid hc
  clear hc
  go_enter Try.func49, Try.ntmps49
  go_wp2_with (first
    | (go_at_call 41; refine (fit_any _ _ h1 h2).mono ?_; rintro e w' ⟨rfl, rfl⟩)
    | (go_at_call 56; refine (take_stop _ _ _ _ _ _ H.out (by omega) hn).mono ?_; rintro e w' ⟨he, rfl⟩; rw [stopped_eq] at he; subst he))
  exact ⟨rfl, rfl, rfl⟩
set_option maxRecDepth 100000 in
theorem num_ok (p : Nat) (bs : List Int) (size : Int) (w : World) (h : Rd w p bs) (h1 : -9223372036854775808 ≤ size) (h2 : size ≤ 9223372036854775807) (hs : fitN size ≤ bs.length) (hy : ∀ x ∈ bs, Byte x) :
    Calls Try.prog 49 #[.pointer (some ⟨p, 0, none⟩), .int .i64 size] w (NumRet w p bs (fitN size)) := by
  by_cases h0 : size ≤ 0
  · have e0 : fitN size = 0 := by have := fitN_eq size; omega
    rw [e0]
    exact (num_zero _ size w h1 h0).mono fun e w' ⟨he, hw⟩ => ⟨he, hw ▸ (by simpa using h), hw ▸ World.grownBy.refl _ _⟩
  · obtain ⟨A, n, c, hc, hf, hp, N, hnc, hcm⟩ := h
    have e0 : 0 < fitN size := by have := fitN_eq size; omega
    have hn : fitN size ≤ n := by rw [← N.len]; exact hs
    have h8 := fitN_le size
    have R := Rd.set_ (s := fitN size) hc hf hp N hn hnc hcm
    have N2 : Nums .u8 (w.setCell ⟨p, 0, none⟩ (.slice (if c = fitN size then A else A.map (·.add (fitN size))) (n - fitN size) (c - fitN size))) p A (fitN size) (bs.take (fitN size)) :=
      (N.upto hn).below ((Below.refl _ _).setCell (p := ⟨p, 0, none⟩) (Nat.le_refl _) _)
    have G := setCell_grown w p (.slice (if c = fitN size then A else A.map (·.add (fitN size))) (n - fitN size) (c - fitN size))
    have hz : p ≤ (w.setCell ⟨p, 0, none⟩ (.slice (if c = fitN size then A else A.map (·.add (fitN size))) (n - fitN size) (c - fitN size))).heap.size := by simp [World.setCell]; omega
    have H := Lib.hid hc; have HF := Lib.hid hf
    clear hc hf
    have TK := take_ok p A n c (fitN size) w H.out HF.out e0 hn hnc hcm
    generalize w.setCell ⟨p, 0, none⟩ (.slice (if c = fitN size then A else A.map (·.add (fitN size))) (n - fitN size) (c - fitN size)) = w1 at *
    have EL := Lib.hid (last8_take bs (fitN size) h8)
    go_enter Try.func49, Try.ntmps49
    go_wp2_with (first
      | (go_at_call 41; refine (fit_any _ _ h1 h2).mono ?_; rintro e w' ⟨rfl, rfl⟩)
      | (go_at_call 56; refine TK.mono ?_; rintro e w' ⟨rfl, rfl⟩)
      | (go_at_call 55; refine (get_any _ _ _ _ _ (N2.more hz) (by omega) (by omega) hcm (fun x hx => hy x (List.mem_of_mem_take hx))).mono ?_; rintro e w' ⟨rfl, rfl⟩))
    go_ret
    exact ⟨ret_int (by rw [EL.out]), R, G⟩
end Go.Proofs.Ytmbfgolcinniiaa.octC

/-
  What alive does, and its two readings.
-/
namespace Go.Proofs.Ytmbfgolcinniiaa.octC
open Go.ChangeShapes Go.WideShapes Go.ChangeAt Go.RowKit
open Go.Proofs.Ytmbfgolcinniiaa.memC
set_option linter.unusedVariables false
/-- of the blocks that were there those alone have turned that S names -/
structure Fr (S : Nat → Prop) (w w' : World) : Prop where
  os : w'.os = w.os
  tape : w'.tape = w.tape
  output : w'.output = w.output
  size : w.heap.size ≤ w'.heap.size
  block : ∀ k, k < w.heap.size → ¬ S k → w'.heap[k]? = w.heap[k]?
section
variable {S : Nat → Prop} {w w1 w2 : World}
theorem Fr.below (h : Below w.heap.size w w1) : Fr S w w1 := ⟨h.os, h.tape, h.output, h.size, fun k hk _ => h.block k hk⟩
theorem Fr.refl (w : World) : Fr S w w := Fr.below (Below.refl _ _)
theorem Fr.trans (h : Fr S w w1) (h' : Fr S w1 w2) : Fr S w w2 :=
  ⟨h'.os.trans h.os, h'.tape.trans h.tape, h'.output.trans h.output, Nat.le_trans h.size h'.size, fun k hk hn => (h'.block k (Nat.lt_of_lt_of_le hk h.size) hn).trans (h.block k hk hn)⟩
theorem Fr.alloc (w : World) (o : Obj) : Fr S w (w.alloc o) := Fr.below ((Below.refl _ _).alloc (Nat.le_refl _) _)
theorem Fr.setCell {p : Nat} (w : World) (h : p < w.heap.size → S p) (v : Value) : Fr S w (w.setCell ⟨p, 0, none⟩ v) :=
  ⟨rfl, rfl, rfl, by simp [World.setCell], fun k hk hn => Below.heap_setCell _ _ _ _ (by rintro rfl; exact hn (h hk))⟩
theorem Fr.cell (h : Fr S w w1) {a : Addr} (ha : a.block < w.heap.size) (hn : ¬ S a.block) : w1.cell? a = w.cell? a := World.cell?_of_block (w := w) (h.block _ ha hn)
theorem Fr.frozen (h : Fr S w w1) {a : Addr} (ha : a.block < w.heap.size) (hn : ¬ S a.block) : w1.frozen? a = w.frozen? a := World.frozen?_of_block (w := w) (h.block _ ha hn)
theorem Fr.mono {S' : Nat → Prop} (h : Fr S w w1) (hS : ∀ k, k < w.heap.size → S k → S' k) : Fr S' w w1 := ⟨h.os, h.tape, h.output, h.size, fun k hk hn => h.block k hk fun hs => hn (hS k hk hs)⟩
end
end Go.Proofs.Ytmbfgolcinniiaa.octC

/-
  What a reader's Bytes does.
-/
namespace Go.Proofs.Ytmbfgolcinniiaa.octC
open Go.ChangeShapes Go.WideShapes Go.ChangeAt Go.RowKit
open Go.Proofs.Ytmbfgolcinniiaa.memC
set_option linter.unusedVariables false
theorem Rd.below {w w' : World} {p : Nat} {bs : List Int} (h : Rd w p bs) (b : Below w.heap.size w w') : Rd w' p bs := by
  obtain ⟨A, n, c, h1, h2, h3, N, h4, h5⟩ := h
  exact ⟨A, n, c, (b.cell (p := ⟨p, 0, none⟩) h3).trans h1, (b.frozen (p := ⟨p, 0, none⟩) h3).trans h2, Nat.lt_of_lt_of_le h3 b.size, N.below (b.mono (Nat.le_of_lt h3)), h4, h5⟩
/-- the next bytes, the call's own, and what is left -/
def ByR (w : World) (p : Nat) (bs : List Int) (s : Nat) (e : Ending) (w' : World) : Prop :=
  ∃ A c, e = .returned (.slice A s c) ∧ Own .u8 5 w' w.heap.size (.slice A s c) (bs.take s) ∧ s ≤ c ∧ c ≤ maxLen ∧ Rd w' p (bs.drop s) ∧ Fr (· = p) w w'
theorem bytes_stop (p : Nat) (bs : List Int) (s : Nat) (z : Int) (w : World) (h : Rd w p bs) (hz : (s : Int) = z) (hs : bs.length < s) :
    Calls Try.prog 51 #[.pointer (some ⟨p, 0, none⟩), .int .i64 z] w fun e w' => e = stopped ∧ w = w' := by
  obtain ⟨A, n, c, hc, hf, hp, N, hnc, hcm⟩ := h
  have hn : n < s := by rw [← N.len]; exact hs
  have T := Lib.hid (take_stop p A n c s w hc (by omega) hn)
  rw [hz] at T
  clear hc hf N hnc hcm hz hs hn
  go_enter Try.func51, Try.ntmps51
  go_wp2_with (first
    | (go_at_call 56; refine T.out.mono ?_; rintro e w' ⟨he, rfl⟩; rw [stopped_eq] at he; subst he))
  exact ⟨rfl, rfl, rfl⟩
theorem bytes_ok (p : Nat) (bs : List Int) (s : Nat) (z : Int) (w : World) (h : Rd w p bs) (hz : (s : Int) = z) (hs : s ≤ bs.length) (hl : bs.length ≤ 100000) :
    Calls Try.prog 51 #[.pointer (some ⟨p, 0, none⟩), .int .i64 z] w (ByR w p bs s) := by
  by_cases h0 : s = 0
  · subst h0
    have T := Lib.hid (take_zero (some ⟨p, 0, none⟩) z w (by omega))
    have HR := Lib.hid h
    clear h hs hl hz
    go_enter Try.func51, Try.ntmps51
    go_wp2_with (first
      | (go_at_call 56; refine T.out.mono ?_; rintro e w' ⟨rfl, rfl⟩)
      | (go_at_call 40; refine (clone_none 0 0 _).mono ?_; rintro e w' ⟨rfl, rfl⟩))
    go_ret
    exact ⟨none, 0, rfl, Own.nil _ _, Nat.le_refl _, Nat.zero_le _, by simpa using HR.out, Fr.refl _⟩
  · obtain ⟨A, n, c, hc, hf, hp, N, hnc, hcm⟩ := h
    have hn : s ≤ n := by rw [← N.len]; exact hs
    have R := Rd.set_ (s := s) hc hf hp N hn hnc hcm
    have N2 : Nums .u8 (w.setCell ⟨p, 0, none⟩ (.slice (if c = s then A else A.map (·.add s)) (n - s) (c - s))) p A s (bs.take s) :=
      (N.upto hn).below ((Below.refl _ _).setCell (p := ⟨p, 0, none⟩) (Nat.le_refl _) _)
    have F1 : Fr (· = p) w (w.setCell ⟨p, 0, none⟩ (.slice (if c = s then A else A.map (·.add s)) (n - s) (c - s))) := Fr.setCell (S := fun x => x = p) _ (fun _ => rfl) _
    have hz2 : w.heap.size = (w.setCell ⟨p, 0, none⟩ (.slice (if c = s then A else A.map (·.add s)) (n - s) (c - s))).heap.size := by simp [World.setCell]
    have TK := Lib.hid (take_ok p A n c s w hc hf (by omega) hn hnc hcm)
    rw [hz] at TK
    clear hc hf
    generalize w.setCell ⟨p, 0, none⟩ (.slice (if c = s then A else A.map (·.add s)) (n - s) (c - s)) = w1 at *
    have CL := Lib.hid (clone_any A s c (bs.take s) w1 (N2.more (by omega)) (by rw [N.len] at hl; omega))
    have HR := Lib.hid R
    have HF := Lib.hid F1
    have HZ := Lib.hid hz2
    have HL := Lib.hid (show (bs.take s).length = s by rw [List.length_take]; omega)
    clear N N2 R F1 hz2 hnc hcm hs hl h0 hn hz
    go_enter Try.func51, Try.ntmps51
    go_wp2_with (first
      | (go_at_call 56; refine TK.out.mono ?_; rintro e w' ⟨rfl, rfl⟩)
      | (go_at_call 40; refine CL.out.mono ?_; rintro e w2 ⟨A2, c2, he, O, h1, h2, N, B⟩
         rw [HL.out] at he O h1
         subst he
         have HO := Lib.hid O
         have HB := Lib.hid B
         clear O N B))
    go_ret
    refine ⟨A2, c2, rfl, ?_, h1, h2, HR.out.below HB.out, HF.out.trans (Fr.below HB.out)⟩
    rw [HZ.out]; exact HO.out
theorem Fr.setRow {S : Nat → Prop} {w w1 : World} (h : Fr S w w1) {g : Nat} (hg : w.heap.size ≤ g) (cs : Array Value) : Fr S w (w1.setRow g cs) :=
  ⟨h.os, h.tape, h.output, by simpa using h.size, fun k hk hn => (setRow_other _ _ _ _ (by omega)).trans (h.block k hk hn)⟩
theorem Fr.row {S : Nat → Prop} {w w1 : World} (h : Fr S w w1) {g : Nat} {o : Obj} (hr : w.heap[g]? = some o) (hn : ¬ S g) : w1.heap[g]? = some o := by
  have hg : g < w.heap.size := by
    rcases Nat.lt_or_ge g w.heap.size with h' | h'
    · exact h'
    · rw [Array.getElem?_eq_none h'] at hr; cases hr
  rw [h.block g hg hn]; exact hr
/-- own bytes stand where a block below them turns -/
theorem Fr.own {p B : Nat} {w w1 : World} {v : Value} {xs : List Int} (h : Fr (· = p) w w1) (hp : p < B) (O : Own .u8 5 w B v xs) : Own .u8 5 w1 B v xs :=
  O.keep fun g h1 h2 => h.block g h2 (by show ¬ g = p; omega)
end Go.Proofs.Ytmbfgolcinniiaa.octC
