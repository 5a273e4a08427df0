/-
  The walk of the fifth statement of octets: Try within Try, readers that nobody made.
-/
import Derived.Test.YtbdppelkefhieaaOctG
namespace Go.Proofs.Ytbdppelkefhieaa.octC
open Go.ChangeShapes Go.WideShapes Go.ChangeAt Go.RowKit
open Go.Proofs.Ytbdppelkefhieaa.memC
set_option linter.unusedVariables false
theorem fit1 : fitN 1 = 1 := by decide
/-- the inner reading, with one of its own -/
theorem inner_own (po pb : Nat) (w : World) (ho : w.cell? ⟨po, 0, none⟩ = some (.bool true)) :
    Calls Try.prog 25 #[.pointer (some ⟨po, 0, none⟩), .pointer (some ⟨pb, 0, none⟩)] w fun e w' => e = stopped ∧ Fr (fun _ => False) w w' ∧ True := by
  go_enter Try.func25, Try.ntmps25
  go_wp2_with (first
    | (go_at_call 19
       refine (read_any none 0 0 [] _ (Nums.none_ 0) (by omega)).mono ?_
       rintro e w1 ⟨p, rfl, hp, R, B1⟩)
    | (go_at_call 22
       refine (num_stop p [] 1 _ R (by omega) (by omega) (by rw [fit1]; decide)).mono ?_
       rintro e w2 ⟨he, rfl⟩
       rw [stopped_eq] at he
       subst he))
  exact ⟨rfl, rfl, Fr.below B1, trivial⟩
theorem inner_none (po pb : Nat) (w : World) (ho : w.cell? ⟨po, 0, none⟩ = some (.bool false)) (hb : w.cell? ⟨pb, 0, none⟩ = some (.bool false)) (hz : w.frozen? ⟨pb, 0, none⟩ = false) :
    Calls Try.prog 25 #[.pointer (some ⟨po, 0, none⟩), .pointer (some ⟨pb, 0, none⟩)] w fun e w' => e = .returned (.tuple #[]) ∧ Fr (· = pb) w w' ∧ w'.cell? ⟨pb, 0, none⟩ = some (.bool true) := by
  go_enter Try.func25, Try.ntmps25
  go_wp2_with fail
  go_end0
  exact ⟨rfl, Fr.setCell (S := fun x => x = pb) _ (fun _ => rfl) _, by go_simp⟩
theorem ent_inner (cap : Array Value) (w : World) : (callFunc 25 cap).run Try.prog w = .ok (.enter 25 cap) w := by go_simp
theorem ent_outer (cap : Array Value) (w : World) : (callFunc 24 cap).run Try.prog w = .ok (.enter 24 cap) w := by go_simp
theorem ent_num (cap : Array Value) (w : World) : (callFunc 26 cap).run Try.prog w = .ok (.enter 26 cap) w := by go_simp
/-- the outer reading: behind it the stop is told, and what stands behind it is done, or not -/
def Outer (own : Bool) (pb ps : Nat) (w w' : World) : Prop := w'.cell? ⟨pb, 0, none⟩ = some (.bool (!own)) ∧ w'.cell? ⟨ps, 0, none⟩ = some (.int .i64 (if own then 4 else 0))
set_option maxHeartbeats 400000 in
theorem outer_any (own : Bool) (po pb ps : Nat) (w : World) (h1 : po ≠ pb) (h2 : po ≠ ps) (h3 : pb ≠ ps) (ho : w.cell? ⟨po, 0, none⟩ = some (.bool own)) (hb : w.cell? ⟨pb, 0, none⟩ = some (.bool false)) (hz : w.frozen? ⟨pb, 0, none⟩ = false)
    (hs : w.cell? ⟨ps, 0, none⟩ = some (.int .i64 0)) (hy : w.frozen? ⟨ps, 0, none⟩ = false) :
    Calls Try.prog 24 #[.pointer (some ⟨po, 0, none⟩), .pointer (some ⟨pb, 0, none⟩), .pointer (some ⟨ps, 0, none⟩)] w fun e w' => e = .returned (.tuple #[]) ∧ Fr (fun x => x = pb ∨ x = ps) w w' ∧ Outer own pb ps w w' := by
  have hmf : ∀ (fn : Fn) (first cap : Array Value) (w : World), (Instr.makeFunc fn first cap).run Try.prog w = .ok (.func fn first cap) w := fun _ _ _ _ => rfl
  have lo : po < w.heap.size := World.block_lt_of_cell? _ _ ho
  have lb : pb < w.heap.size := World.block_lt_of_cell? _ _ hb
  have ls : ps < w.heap.size := World.block_lt_of_cell? _ _ hs
  have B : Below w.heap.size w (w.alloc (.cells #[.int .i64 0] 31)) := (Below.refl _ _).alloc (Nat.le_refl _) _
  have ho' := (B.cell (p := ⟨po, 0, none⟩) lo).trans ho
  have hb' := (B.cell (p := ⟨pb, 0, none⟩) lb).trans hb
  have hz' := (B.frozen (p := ⟨pb, 0, none⟩) lb).trans hz
  cases own
  · have T := Lib.hid (try_end _ _ w (· = pb) (fun w' => w'.cell? ⟨pb, 0, none⟩ = some (.bool true)) (fun k hk => by subst hk; exact lb) (ent_inner _) (fun w1 w2 hB h => (hB.cell (p := ⟨pb, 0, none⟩) lb).trans h) (inner_none po pb _ ho' hb' hz'))
    clear ho' hb' hz' B
    go_enter Try.func24, Try.ntmps24
    go_wp2_with (go_at_call 20
                 refine T.out.mono ?_
                 rintro e w1 ⟨rfl, F, hb1⟩
                 have hs1 : w1.cell? ⟨ps, 0, none⟩ = some (.int .i64 0) := (F.cell (a := ⟨ps, 0, none⟩) ls (fun h => h3 h.symm)).trans hs
                 have hy1 : w1.frozen? ⟨ps, 0, none⟩ = false := (F.frozen (a := ⟨ps, 0, none⟩) ls (fun h => h3 h.symm)).trans hy)
    go_end0
    refine ⟨rfl, (F.mono fun k _ h => .inl h).trans (Fr.setCell _ (fun _ => .inr rfl) _), ?_, ?_⟩
    · rw [World.cell?_setCell_other w1 _ _ _ (fun e => absurd (congrArg Addr.block e) (by first | exact h3 | exact fun h => h3 h.symm))]; exact hb1
    · go_simp
  · have T := Lib.hid (try_halt _ _ w (fun _ => False) (fun _ => True) (fun k hk => hk.elim) (ent_inner _) (fun _ _ _ _ => trivial) (inner_own po pb _ ho'))
    clear ho' hb' hz' B
    go_enter Try.func24, Try.ntmps24
    go_wp2_with (go_at_call 20
                 refine T.out.mono ?_
                 rintro e w1 ⟨rfl, F, _⟩
                 have hb1 : w1.cell? ⟨pb, 0, none⟩ = some (.bool false) := (F.cell (a := ⟨pb, 0, none⟩) lb (fun h => h)).trans hb
                 have hs1 : w1.cell? ⟨ps, 0, none⟩ = some (.int .i64 0) := (F.cell (a := ⟨ps, 0, none⟩) ls (fun h => h)).trans hs
                 have hy1 : w1.frozen? ⟨ps, 0, none⟩ = false := (F.frozen (a := ⟨ps, 0, none⟩) ls (fun h => h)).trans hy)
    go_end0
    refine ⟨rfl, (F.mono fun k _ h => h.elim).trans (Fr.setCell _ (fun _ => .inr rfl) _), ?_, ?_⟩
    · rw [World.cell?_setCell_other w1 _ _ _ (fun e => absurd (congrArg Addr.block e) (by first | exact h3 | exact fun h => h3 h.symm))]; exact hb1
    · go_simp
/-- Num of what r holds: nil, or a reader that nobody made -/
def Nobody (w : World) (r : Value) : Prop := r = .pointer none ∨ ∃ p, r = .pointer (some ⟨p, 0, none⟩) ∧ Rd w p []
theorem Nobody.below {w w' : World} {r : Value} (h : Nobody w r) (b : Below w.heap.size w w') : Nobody w' r := by
  rcases h with rfl | ⟨p, rfl, A, n, c, h1, h2, h3, N, h4, h5⟩
  · exact .inl rfl
  · exact .inr ⟨p, rfl, A, n, c, (b.cell (p := ⟨p, 0, none⟩) h3).trans h1, (b.frozen (p := ⟨p, 0, none⟩) h3).trans h2, Nat.lt_of_lt_of_le h3 b.size, N.below (b.mono (Nat.le_of_lt h3)), h4, h5⟩
/-- a reader's block, if it has one -/
def isBlk (r : Value) (k : Nat) : Prop := r = .pointer (some ⟨k, 0, none⟩)
theorem nobody_num_ok (r : Value) (size : Int) (w : World) (h : Nobody w r) (h1 : -9223372036854775808 ≤ size) (hs : size ≤ 0) :
    Calls Try.prog 22 #[r, .int .i64 size] w fun e w' => e = .returned (.int .u64 0) ∧ w = w' := by
  rcases h with rfl | ⟨p, rfl, _⟩
  · exact num_zero _ _ _ h1 hs
  · exact num_zero _ _ _ h1 hs
theorem nobody_num_no (r : Value) (size : Int) (w : World) (h : Nobody w r) (h2 : size ≤ 9223372036854775807) (hs : 0 < size) :
    Calls Try.prog 22 #[r, .int .i64 size] w fun e w' => e = stopped ∧ w = w' := by
  rcases h with rfl | ⟨p, rfl, R⟩
  · exact num_none _ _ hs h2
  · exact num_stop p [] size w R (by omega) h2 (by have := fitN_eq size; simp; omega)
theorem nobody_left (r : Value) (w : World) (h : Nobody w r) :
    Calls Try.prog 23 #[r] w fun e w' => e = .returned (.int .i64 0) ∧ w = w' := by
  rcases h with rfl | ⟨p, rfl, A, n, c, h1, h2, h3, N, h4, h5⟩
  · exact left_none _
  · have e : n = 0 := by have := N.len; simpa using this.symm
    subst e
    exact left_some p A 0 c w h1
theorem num_reading_ok (pr ps : Nat) (r : Value) (size : Int) (w : World) (hr : w.cell? ⟨pr, 0, none⟩ = some r) (hp : w.cell? ⟨ps, 0, none⟩ = some (.int .i64 size)) (h : Nobody w r) (h1 : -9223372036854775808 ≤ size) (hs : size ≤ 0) :
    Calls Try.prog 26 #[.pointer (some ⟨pr, 0, none⟩), .pointer (some ⟨ps, 0, none⟩)] w fun e w' => e = .returned (.tuple #[]) ∧ Fr (fun _ => False) w w' ∧ True := by
  go_enter Try.func26, Try.ntmps26
  go_wp2_with (go_at_call 22; refine (nobody_num_ok r size _ h h1 hs).mono ?_; rintro e w' ⟨rfl, rfl⟩)
  go_end0
  exact ⟨rfl, Fr.refl _, trivial⟩
theorem num_reading_no (pr ps : Nat) (r : Value) (size : Int) (w : World) (hr : w.cell? ⟨pr, 0, none⟩ = some r) (hp : w.cell? ⟨ps, 0, none⟩ = some (.int .i64 size)) (h : Nobody w r) (h2 : size ≤ 9223372036854775807) (hs : 0 < size) :
    Calls Try.prog 26 #[.pointer (some ⟨pr, 0, none⟩), .pointer (some ⟨ps, 0, none⟩)] w fun e w' => e = stopped ∧ Fr (fun _ => False) w w' ∧ True := by
  go_enter Try.func26, Try.ntmps26
  go_wp2_with (go_at_call 22; refine (nobody_num_no r size _ h h2 hs).mono ?_; rintro e w' ⟨he, rfl⟩; rw [stopped_eq] at he; subst he)
  exact ⟨rfl, rfl, Fr.refl _, trivial⟩
def TryNum (w : World) (size : Int) (e : Ending) (w' : World) : Prop := e = .returned (.int .i64 (if size ≤ 0 then 0 else 4)) ∧ Below w.heap.size w w'
theorem try_num (pr ps : Nat) (r : Value) (size : Int) (w : World) (hr : w.cell? ⟨pr, 0, none⟩ = some r) (hp : w.cell? ⟨ps, 0, none⟩ = some (.int .i64 size)) (h : Nobody w r) (h1 : -9223372036854775808 ≤ size) (h2 : size ≤ 9223372036854775807) :
    Calls Try.prog 20 #[.func (.func 26) #[] #[.pointer (some ⟨pr, 0, none⟩), .pointer (some ⟨ps, 0, none⟩)]] w (TryNum w size) := by
  have lr : pr < w.heap.size := World.block_lt_of_cell? _ _ hr
  have lp : ps < w.heap.size := World.block_lt_of_cell? _ _ hp
  have B : Below w.heap.size w (w.alloc (.cells #[.int .i64 0] 31)) := (Below.refl _ _).alloc (Nat.le_refl _) _
  have hr' := (B.cell (p := ⟨pr, 0, none⟩) lr).trans hr
  have hp' := (B.cell (p := ⟨ps, 0, none⟩) lp).trans hp
  by_cases hs : size ≤ 0
  · refine (try_end _ _ w (fun _ => False) (fun _ => True) (fun k hk => hk.elim) (ent_num _) (fun _ _ _ _ => trivial) (num_reading_ok pr ps r size _ hr' hp' (h.below B) h1 hs)).mono ?_
    rintro e w' ⟨rfl, F, _⟩
    exact ⟨by rw [if_pos hs], F.to_below (fun k hk => hk.elim) (Nat.le_refl _)⟩
  · refine (try_halt _ _ w (fun _ => False) (fun _ => True) (fun k hk => hk.elim) (ent_num _) (fun _ _ _ _ => trivial) (num_reading_no pr ps r size _ hr' hp' (h.below B) h2 (by omega))).mono ?_
    rintro e w' ⟨rfl, F, _⟩
    exact ⟨by rw [if_neg hs], F.to_below (fun k hk => hk.elim) (Nat.le_refl _)⟩
def TryOuter (own : Bool) (pb ps : Nat) (w : World) (e : Ending) (w' : World) : Prop := e = .returned (.int .i64 0) ∧ Fr (fun x => x = pb ∨ x = ps) w w' ∧ Outer own pb ps w w'
theorem try_outer (own : Bool) (po pb ps : Nat) (w : World) (h1 : po ≠ pb) (h2 : po ≠ ps) (h3 : pb ≠ ps) (ho : w.cell? ⟨po, 0, none⟩ = some (.bool own)) (hb : w.cell? ⟨pb, 0, none⟩ = some (.bool false)) (hz : w.frozen? ⟨pb, 0, none⟩ = false)
    (hs : w.cell? ⟨ps, 0, none⟩ = some (.int .i64 0)) (hy : w.frozen? ⟨ps, 0, none⟩ = false) :
    Calls Try.prog 20 #[.func (.func 24) #[] #[.pointer (some ⟨po, 0, none⟩), .pointer (some ⟨pb, 0, none⟩), .pointer (some ⟨ps, 0, none⟩)]] w (TryOuter own pb ps w) := by
  have lo : po < w.heap.size := World.block_lt_of_cell? _ _ ho
  have lb : pb < w.heap.size := World.block_lt_of_cell? _ _ hb
  have ls : ps < w.heap.size := World.block_lt_of_cell? _ _ hs
  have B : Below w.heap.size w (w.alloc (.cells #[.int .i64 0] 31)) := (Below.refl _ _).alloc (Nat.le_refl _) _
  exact try_end _ _ w (fun x => x = pb ∨ x = ps) (fun w' => Outer own pb ps w w') (fun k hk => by rcases hk with rfl | rfl; exact lb; exact ls) (ent_outer _)
    (fun w1 w2 hB h => ⟨(hB.cell (p := ⟨pb, 0, none⟩) lb).trans h.1, (hB.cell (p := ⟨ps, 0, none⟩) ls).trans h.2⟩)
    (outer_any own po pb ps _ h1 h2 h3 ((B.cell (p := ⟨po, 0, none⟩) lo).trans ho) ((B.cell (p := ⟨pb, 0, none⟩) lb).trans hb) ((B.frozen (p := ⟨pb, 0, none⟩) lb).trans hz) ((B.cell (p := ⟨ps, 0, none⟩) ls).trans hs) ((B.frozen (p := ⟨ps, 0, none⟩) ls).trans hy))
end Go.Proofs.Ytbdppelkefhieaa.octC
