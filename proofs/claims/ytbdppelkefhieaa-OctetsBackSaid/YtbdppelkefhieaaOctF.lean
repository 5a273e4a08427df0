/-
  What alive does, and its two readings.
-/
import Derived.Test.YtbdppelkefhieaaOctE
namespace Go.Proofs.Ytbdppelkefhieaa.octC
open Go.ChangeShapes Go.WideShapes Go.ChangeAt Go.RowKit
open Go.Proofs.Ytbdppelkefhieaa.memC
set_option linter.unusedVariables false
theorem put_ret (A : Option Addr) (n c : Nat) (size : Int) (A2 : Option Addr) (m c2 : Nat) (bs ns : List Int) (w : World) (h1 : -9223372036854775808 ≤ size) (h2 : size ≤ 9223372036854775807)
    (hb : Nums .u8 w w.heap.size A n bs) (hns : Nums .u64 w w.heap.size A2 m ns) (hn : n ≤ 3000) (hm : m ≤ 300) :
    Calls Try.prog 10 #[.slice A n c, .int .i64 size, .slice A2 m c2] w (OwnRet w (putL bs (fitN size) ns)) :=
  (put_any A n c size A2 m c2 bs ns w h1 h2 hb hns hn hm).mono fun e w' ⟨v, he, O, B⟩ => own_ret he O B
theorem putref_ret (A : Option Addr) (n c : Nat) (size : Int) (A2 : Option Addr) (m c2 : Nat) (bs ns : List Int) (w : World) (h1 : -9223372036854775808 ≤ size) (h2 : size ≤ 9223372036854775807)
    (hb : Nums .u8 w w.heap.size A n bs) (hns : Nums .u64 w w.heap.size A2 m ns) (hn : n ≤ 3000) (hm : m ≤ 300) :
    Calls Try.prog 11 #[.slice A n c, .int .i64 size, .slice A2 m c2] w (OwnRet w (putL bs (fitN size) ns)) :=
  (putref_any A n c size A2 m c2 bs ns w h1 h2 hb hns hn hm).mono fun e w' ⟨v, he, O, B⟩ => own_ret he O B

/-- of the blocks that were there those alone have turned that S names -/
structure Fr (S : Nat → Prop) (w w' : World) : Prop where
  os : w'.os = w.os
  tape : w'.tape = w.tape
  output : w'.output = w.output
  size : w.heap.size ≤ w'.heap.size
  block : ∀ k, k < w.heap.size → ¬ S k → w'.heap[k]? = w.heap[k]?
section
variable {S : Nat → Prop} {w w1 w2 : World}
theorem Fr.below (h : Below w.heap.size w w1) : Fr S w w1 := ⟨h.os, h.tape, h.output, h.size, fun k hk _ => h.block k hk⟩
theorem Fr.refl (w : World) : Fr S w w := Fr.below (Below.refl _ _)
theorem Fr.trans (h : Fr S w w1) (h' : Fr S w1 w2) : Fr S w w2 :=
  ⟨h'.os.trans h.os, h'.tape.trans h.tape, h'.output.trans h.output, Nat.le_trans h.size h'.size, fun k hk hn => (h'.block k (Nat.lt_of_lt_of_le hk h.size) hn).trans (h.block k hk hn)⟩
theorem Fr.grown {row : Option Nat} (h : w.grownBy w1 row) (hr : ∀ k, row = some k → k < w.heap.size → S k) : Fr S w w1 :=
  ⟨h.os, h.tape, h.output, h.size, fun k hk hn => h.block k hk (fun e => hn (hr k e.symm hk))⟩
theorem Fr.alloc (w : World) (o : Obj) : Fr S w (w.alloc o) := Fr.below ((Below.refl _ _).alloc (Nat.le_refl _) _)
theorem Fr.setCell {p : Nat} (w : World) (h : p < w.heap.size → S p) (v : Value) : Fr S w (w.setCell ⟨p, 0, none⟩ v) :=
  ⟨rfl, rfl, rfl, by simp [World.setCell], fun k hk hn => Below.heap_setCell _ _ _ _ (by rintro rfl; exact hn (h hk))⟩
theorem Fr.cell (h : Fr S w w1) {a : Addr} (ha : a.block < w.heap.size) (hn : ¬ S a.block) : w1.cell? a = w.cell? a := World.cell?_of_block (w := w) (h.block _ ha hn)
theorem Fr.frozen (h : Fr S w w1) {a : Addr} (ha : a.block < w.heap.size) (hn : ¬ S a.block) : w1.frozen? a = w.frozen? a := World.frozen?_of_block (w := w) (h.block _ ha hn)
theorem Fr.to_below {B : Nat} (h : Fr S w w1) (hB : ∀ k, S k → B ≤ k) (hw : B ≤ w.heap.size) : Below B w w1 :=
  ⟨h.os, h.tape, h.output, h.size, fun k hk => h.block k (by omega) (fun hs => by have := hB k hs; omega)⟩
theorem Fr.mono {S' : Nat → Prop} (h : Fr S w w1) (hS : ∀ k, k < w.heap.size → S k → S' k) : Fr S' w w1 := ⟨h.os, h.tape, h.output, h.size, fun k hk hn => h.block k hk fun hs => hn (hS k hk hs)⟩
end
/-- Try of a reading that ends -/
theorem try_end (K : FuncId) (cap : Array Value) (w : World) (S : Nat → Prop) (R : World → Prop) (hS : ∀ k, S k → k < w.heap.size)
    (hent : ∀ w : World, (callFunc K cap).run Try.prog w = .ok (.enter K cap) w)
    (hR : ∀ w1 w2, Below w.heap.size w1 w2 → R w1 → R w2)
    (hk : Calls Try.prog K cap (w.alloc (.cells #[.int .i64 0] 31)) fun e w' => e = .returned (.tuple #[]) ∧ Fr S (w.alloc (.cells #[.int .i64 0] 31)) w' ∧ R w') :
    Calls Try.prog 20 #[.func (.func K) #[] cap] w fun e w' => e = .returned (.int .i64 0) ∧ Fr S w w' ∧ R w' := by
  have hsz : (w.alloc (.cells #[.int .i64 0] 31)).heap.size = w.heap.size + 1 := by simp
  refine (try_ok K cap w _ hent hk fun w' ⟨F, _⟩ => ⟨?_, ?_⟩).mono ?_
  · rw [F.cell (a := ⟨w.heap.size, 0, none⟩) (by rw [hsz]; exact Nat.lt_succ_self _) (fun h => Nat.lt_irrefl _ (hS _ h))]; go_simp
  · rw [F.frozen (a := ⟨w.heap.size, 0, none⟩) (by rw [hsz]; exact Nat.lt_succ_self _) (fun h => Nat.lt_irrefl _ (hS _ h))]; go_simp
  · rintro e w' ⟨rfl, w1, ⟨F, hr⟩, rfl⟩
    have F1 : Fr S w w1 := (Fr.alloc w _).trans F
    refine ⟨rfl, ?_, hR _ _ ((Below.refl _ _).setCell (p := ⟨w.heap.size, 0, none⟩) (Nat.le_refl _) _) hr⟩
    refine ⟨F1.os, F1.tape, F1.output, by simpa [World.setCell] using F1.size, fun k hk hn => ?_⟩
    rw [Below.heap_setCell _ _ _ _ (by show k ≠ w.heap.size; omega)]
    exact F1.block k hk hn
/-- Try of a reading that stops -/
theorem try_halt (K : FuncId) (cap : Array Value) (w : World) (S : Nat → Prop) (R : World → Prop) (hS : ∀ k, S k → k < w.heap.size)
    (hent : ∀ w : World, (callFunc K cap).run Try.prog w = .ok (.enter K cap) w)
    (hR : ∀ w1 w2, Below w.heap.size w1 w2 → R w1 → R w2)
    (hk : Calls Try.prog K cap (w.alloc (.cells #[.int .i64 0] 31)) fun e w' => e = stopped ∧ Fr S (w.alloc (.cells #[.int .i64 0] 31)) w' ∧ R w') :
    Calls Try.prog 20 #[.func (.func K) #[] cap] w fun e w' => e = .returned (.int .i64 4) ∧ Fr S w w' ∧ R w' := by
  have hsz : (w.alloc (.cells #[.int .i64 0] 31)).heap.size = w.heap.size + 1 := by simp
  refine (try_stop K cap w _ hent hk fun w' ⟨F, _⟩ => ⟨?_, ?_⟩).mono ?_
  · rw [F.cell (a := ⟨w.heap.size, 0, none⟩) (by rw [hsz]; exact Nat.lt_succ_self _) (fun h => Nat.lt_irrefl _ (hS _ h))]; go_simp
  · rw [F.frozen (a := ⟨w.heap.size, 0, none⟩) (by rw [hsz]; exact Nat.lt_succ_self _) (fun h => Nat.lt_irrefl _ (hS _ h))]; go_simp
  · rintro e w' ⟨rfl, w1, ⟨F, hr⟩, rfl⟩
    have F1 : Fr S w w1 := (Fr.alloc w _).trans F
    have F2 : Fr S w (w1.alloc (.cells #[] 57)) := F1.trans (Fr.alloc _ _)
    refine ⟨rfl, ?_, hR _ _ (((Below.refl _ _).alloc (by have := F1.size; omega) _).setCell (p := ⟨w.heap.size, 0, none⟩) (Nat.le_refl _) _) hr⟩
    refine ⟨F2.os, F2.tape, F2.output, by simpa [World.setCell] using F2.size, fun k hk hn => ?_⟩
    rw [Below.heap_setCell _ _ _ _ (by show k ≠ w.heap.size; omega)]
    exact F2.block k hk hn
theorem fit2 : fitN 2 = 2 := by decide
theorem fit3 : fitN 3 = 3 := by decide

set_option maxRecDepth 100000 in
theorem alive1_any (pb pn : Nat) (A : Option Addr) (c : Nat) (w : World) (hb : w.cell? ⟨pb, 0, none⟩ = some (.slice A 2 c)) (N : Nums .u8 w w.heap.size A 2 [1, 2])
    (hn : w.cell? ⟨pn, 0, none⟩ = some (.int .u64 0)) (hz : w.frozen? ⟨pn, 0, none⟩ = false) :
    Calls Try.prog 27 #[.pointer (some ⟨pb, 0, none⟩), .pointer (some ⟨pn, 0, none⟩)] w fun e w' =>
      e = .returned (.tuple #[]) ∧ Fr (· = pn) w w' ∧ w'.cell? ⟨pn, 0, none⟩ = some (.int .u64 258) := by
  have hlt : pn < w.heap.size := World.block_lt_of_cell? _ _ hn
  go_enter Try.func27, Try.ntmps27
  go_wp2_with (first
    | (go_at_call 19
       refine (read_any _ _ _ [1, 2] _ N (by omega)).mono ?_
       rintro e w1 ⟨p, rfl, hp, R, B1⟩)
    | (go_at_call 22
       refine (num_ok p [1, 2] 2 _ R (by omega) (by omega) (by rw [fit2]; decide) (by intro x hx; simp at hx; rcases hx with rfl | rfl <;> constructor <;> decide)).mono ?_
       rintro e w2 ⟨rfl, R2, G2⟩
       have B2 : Below w.heap.size w w2 := B1.grown G2 B1.size (by rintro _ ⟨rfl⟩; exact hp)
       have hn2 : w2.cell? ⟨pn, 0, none⟩ = some (.int .u64 0) := (B2.cell (p := ⟨pn, 0, none⟩) hlt).trans hn
       have hz2 : w2.frozen? ⟨pn, 0, none⟩ = false := (B2.frozen (p := ⟨pn, 0, none⟩) hlt).trans hz))
  have e258 : getZ (([1, 2] : List Int).take (fitN 2)) = 258 := by rw [fit2]; decide
  rw [e258]
  go_end0
  exact ⟨rfl, (Fr.below B2).trans (Fr.setCell (S := fun x => x = pn) _ (fun _ => rfl) _), by go_simp⟩
set_option maxRecDepth 100000 in
theorem alive2_any (pb : Nat) (A : Option Addr) (c : Nat) (w : World) (hb : w.cell? ⟨pb, 0, none⟩ = some (.slice A 2 c)) (N : Nums .u8 w w.heap.size A 2 [1, 2]) :
    Calls Try.prog 28 #[.pointer (some ⟨pb, 0, none⟩)] w fun e w' => e = stopped ∧ Fr (fun _ => False) w w' ∧ True := by
  go_enter Try.func28, Try.ntmps28
  go_wp2_with (first
    | (go_at_call 19
       refine (read_any _ _ _ [1, 2] _ N (by omega)).mono ?_
       rintro e w1 ⟨p, rfl, hp, R, B1⟩)
    | (go_at_call 22
       refine (num_stop p [1, 2] 3 _ R (by omega) (by omega) (by rw [fit3]; decide)).mono ?_
       rintro e w2 ⟨he, rfl⟩
       rw [stopped_eq] at he
       subst he))
  exact ⟨rfl, rfl, Fr.below B1, trivial⟩
theorem ent_alive1 (cap : Array Value) (w : World) : (callFunc 27 cap).run Try.prog w = .ok (.enter 27 cap) w := by go_simp
theorem ent_alive2 (cap : Array Value) (w : World) : (callFunc 28 cap).run Try.prog w = .ok (.enter 28 cap) w := by go_simp
def Try1 (w : World) (pn : Nat) (e : Ending) (w' : World) : Prop := e = .returned (.int .i64 0) ∧ Fr (· = pn) w w' ∧ w'.cell? ⟨pn, 0, none⟩ = some (.int .u64 258)
theorem try_alive1 (pb pn : Nat) (A : Option Addr) (c : Nat) (w : World) (hb : w.cell? ⟨pb, 0, none⟩ = some (.slice A 2 c)) (N : Nums .u8 w w.heap.size A 2 [1, 2])
    (hn : w.cell? ⟨pn, 0, none⟩ = some (.int .u64 0)) (hz : w.frozen? ⟨pn, 0, none⟩ = false) :
    Calls Try.prog 20 #[.func (.func 27) #[] #[.pointer (some ⟨pb, 0, none⟩), .pointer (some ⟨pn, 0, none⟩)]] w (Try1 w pn) := by
  have hlt : pn < w.heap.size := World.block_lt_of_cell? _ _ hn
  have hlb : pb < w.heap.size := World.block_lt_of_cell? _ _ hb
  have B : Below w.heap.size w (w.alloc (.cells #[.int .i64 0] 31)) := (Below.refl _ _).alloc (Nat.le_refl _) _
  exact try_end _ _ w _ (fun w' => w'.cell? ⟨pn, 0, none⟩ = some (.int .u64 258)) (fun k hk => by subst hk; exact hlt) (ent_alive1 _) (fun w1 w2 hB h => (hB.cell (p := ⟨pn, 0, none⟩) hlt).trans h)
    (alive1_any pb pn A c _ ((B.cell (p := ⟨pb, 0, none⟩) hlb).trans hb) ((N.below B).more B.size) ((B.cell (p := ⟨pn, 0, none⟩) hlt).trans hn) ((B.frozen (p := ⟨pn, 0, none⟩) hlt).trans hz))
def Try2 (w : World) (e : Ending) (w' : World) : Prop := e = .returned (.int .i64 4) ∧ Fr (fun _ => False) w w' ∧ True
theorem try_alive2 (pb : Nat) (A : Option Addr) (c : Nat) (w : World) (hb : w.cell? ⟨pb, 0, none⟩ = some (.slice A 2 c)) (N : Nums .u8 w w.heap.size A 2 [1, 2]) :
    Calls Try.prog 20 #[.func (.func 28) #[] #[.pointer (some ⟨pb, 0, none⟩)]] w (Try2 w) := by
  have hlb : pb < w.heap.size := World.block_lt_of_cell? _ _ hb
  have B : Below w.heap.size w (w.alloc (.cells #[.int .i64 0] 31)) := (Below.refl _ _).alloc (Nat.le_refl _) _
  exact try_halt _ _ w _ (fun _ => True) (fun k hk => hk.elim) (ent_alive2 _) (fun _ _ _ _ => trivial)
    (alive2_any pb A c _ ((B.cell (p := ⟨pb, 0, none⟩) hlb).trans hb) ((N.below B).more B.size))
def AliveRet (w : World) (e : Ending) (w' : World) : Prop := e = .returned (.bool true) ∧ Below w.heap.size w w'
def Put12 (w : World) (e : Ending) (w' : World) : Prop := ∃ (b o c : Nat), e = .returned (.slice (some ⟨b, o, none⟩) 2 c) ∧ w'.cell? ⟨b, o + 0, none⟩ = some (.int .u8 1) ∧ b < w'.heap.size ∧ Nums .u8 w' w'.heap.size (some ⟨b, o, none⟩) 2 [1, 2] ∧ Below w.heap.size w w'
theorem put_12 (w : World) : Calls Try.prog 10 #[.slice none 0 0, .int .i64 2, .slice (some ⟨w.heap.size, 0, none⟩) 1 1] (w.alloc (.cells #[.int .u64 258] 28)) (Put12 w) := by
  have N1 : Nums .u64 (w.alloc (.cells #[.int .u64 258] 28)) (w.alloc (.cells #[.int .u64 258] 28)).heap.size (some ⟨w.heap.size, 0, none⟩) 1 [258] :=
    ⟨rfl, fun _ => ⟨_, _, rfl, by simp, fun i hi => by obtain rfl : i = 0 := by omega
                                                       go_simp⟩⟩
  refine (put_ret none 0 0 2 _ 1 1 [] [258] _ (by omega) (by omega) (Nums.none_ 0) N1 (by omega) (by omega)).mono ?_
  rw [show putL [] (fitN 2) [258] = [1, 2] by decide]
  rintro e w' ⟨A, c, rfl, O, h1, h2, N, B⟩
  obtain ⟨b, o, rfl, hb, hc⟩ := N.at_ (by decide)
  exact ⟨b, o, c, rfl, hc 0 (by decide), hb, N, ((Below.refl _ _).alloc (Nat.le_refl _) _).trans (B.mono (by simp))⟩
end Go.Proofs.Ytbdppelkefhieaa.octC
