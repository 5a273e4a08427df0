/-
  5 texts of a proof, joined.
-/
import Derived.Test.YtniimgbljhmcoaaDoorMg2
import Derived.WalkSpells
import Derived.WalkLawsBesides
import Derived.Defers
import Derived.Recover
import Derived.Laws.Pointers

/-
  What a reader does: Read, Left, take, Num.
-/
namespace Go.Proofs.YtniimgbljhmcoaaDoor.octC
open Go.ChangeShapes Go.WideShapes Go.ChangeAt Go.RowKit
open Go.Proofs.YtniimgbljhmcoaaDoor.memC
set_option linter.unusedVariables false
/-- a reader at block p, with bs left -/
def Rd (w : World) (p : Nat) (bs : List Int) : Prop := ∃ A n c, w.cell? ⟨p, 0, none⟩ = some (.slice A n c) ∧ w.frozen? ⟨p, 0, none⟩ = false ∧ p < w.heap.size ∧ Nums .u8 w p A n bs ∧ n ≤ c ∧ c ≤ 9223372036854775807
def stopped : Ending := .panicked [{ v := .iface 103 (.agg #[]), recovered := false }]
theorem stopped_eq : stopped = .panicked [{ v := .iface 103 (.agg #[]), recovered := false }] := rfl
theorem clone_none (n c : Nat) (w : World) :
    Calls Tryd.prog 80 #[.slice none n c] w fun e w' => e = .returned (.slice none 0 0) ∧ w = w' := by
  have q := fun (w : World) (a : Option Addr) (n c n' c' : Nat) => Lib.run_eql_slice_nil (P := Tryd.prog) w _ _ a n c n' c' Tryd.underlying32
  go_enter Tryd.func80, Tryd.ntmps80
  go_wp2
  go_ret
  exact ⟨rfl, rfl⟩
def OwnRet (w : World) (bs : List Int) (e : Ending) (w' : World) : Prop := ∃ A c, e = .returned (.slice A bs.length c) ∧ Own .u8 5 w' w.heap.size (.slice A bs.length c) bs ∧ bs.length ≤ c ∧ c ≤ maxLen ∧ Nums .u8 w' w'.heap.size A bs.length bs ∧ Below w.heap.size w w'
theorem own_ret {w w' : World} {bs : List Int} {e : Ending} {v : Value} (he : e = .returned v) (O : Own .u8 5 w' w.heap.size v bs) (B : Below w.heap.size w w') : OwnRet w bs e w' := by
  obtain ⟨A, c, rfl, h1, h2, N⟩ := O.form
  exact ⟨A, c, he, O, h1, h2, N, B⟩
theorem clone_some (a : Addr) (n c : Nat) (bs : List Int) (w : World) (hb : Nums .u8 w w.heap.size (some a) n bs) (hn : n ≤ 100000) :
    Calls Tryd.prog 80 #[.slice (some a) n c] w (OwnRet w bs) := by
  have q := fun (w : World) (a : Option Addr) (n c n' c' : Nat) => Lib.run_eql_slice_nil (P := Tryd.prog) w _ _ a n c n' c' Tryd.underlying32
  obtain ⟨i0, hi0, hz0, hz1, hz2⟩ := info_parts byte_info
  have T1 := Lib.hid hi0; have T2 := Lib.hid hz0; have T3 := Lib.hid hz1; have T4 := Lib.hid hz2
  clear hi0 hz0 hz1 hz2
  have O1 : Own .u8 5 (w.alloc (.cells #[] 5)) w.heap.size (.slice (some ⟨w.heap.size, 0, none⟩) 0 0) [] := World.ownsRow_lit w #[] 0 (Nat.le_refl _) (Nat.zero_le _) rfl
  have B1 : Below w.heap.size w (w.alloc (.cells #[] 5)) := (Below.refl _ _).alloc (Nat.le_refl _) _
  go_enter Tryd.func80, Tryd.ntmps80
  go_wp2_with (at_builtin
               (refine wpList_app _ rfl (.tmp 5) (.tmp 6) _ rfl 5 i0 _ 1 Tryd.underlying32 T1.out T2.out T3.out T4.out rfl w.heap.size _ [] rfl O1 w.heap.size _ n c bs rfl (hb.below B1) (by simp only [maxLen, List.length_nil]; omega) (by simp only [List.length_nil]; omega) B1.size ?_)
               intro v2 w2 O2 hg2
               have B2 : Below w.heap.size w w2 := B1.grown hg2 B1.size fun g hg => (O1.blk g hg).1
               clear hg2)
  go_ret
  exact own_ret rfl (by simpa using O2) B2
theorem clone_any (A : Option Addr) (n c : Nat) (bs : List Int) (w : World) (hb : Nums .u8 w w.heap.size A n bs) (hn : n ≤ 100000) :
    Calls Tryd.prog 80 #[.slice A n c] w (OwnRet w bs) := by
  rcases A with _ | a
  · have h0 : n = 0 := by
      rcases Nat.eq_zero_or_pos n with h | h
      · exact h
      · obtain ⟨b, o, h, _⟩ := hb.at_ h; cases h
    subst h0
    obtain rfl := hb.zero
    exact (clone_none 0 c w).mono fun e w' ⟨he, hw⟩ => own_ret he (hw ▸ Own.nil _ _) (hw ▸ Below.refl _ _)
  · exact clone_some a n c bs w hb hn
def RdRet (w : World) (bs : List Int) (e : Ending) (w' : World) : Prop := ∃ p, e = .returned (.pointer (some ⟨p, 0, none⟩)) ∧ w.heap.size ≤ p ∧ Rd w' p bs ∧ Below w.heap.size w w'
theorem read_any (A : Option Addr) (n c : Nat) (bs : List Int) (w : World) (hb : Nums .u8 w w.heap.size A n bs) (hn : n ≤ 100000) :
    Calls Tryd.prog 44 #[.slice A n c] w (RdRet w bs) := by
  go_enter Tryd.func44, Tryd.ntmps44
  go_wp2_with (go_at_call 80
               refine (clone_any A n c bs _ hb hn).mono ?_
               rintro e w1 ⟨A', c', rfl, O, h1, h2, N, B⟩)
  go_ret
  unfold maxLen at h2
  refine ⟨w1.heap.size, rfl, B.size, ⟨A', bs.length, c', by go_simp, by go_simp, by simp, ?_, h1, by omega⟩, B.alloc B.size _⟩
  exact N.below ((Below.refl _ _).alloc (Nat.le_refl _) _)
theorem left_none (w : World) : Calls Tryd.prog 79 #[.pointer none] w fun e w' => e = .returned (.int .i64 0) ∧ w = w' := by
  go_enter Tryd.func79, Tryd.ntmps79
  go_wp2
  go_ret
  exact ⟨rfl, rfl⟩
theorem left_some (p : Nat) (A : Option Addr) (n c : Nat) (w : World) (h : w.cell? ⟨p, 0, none⟩ = some (.slice A n c)) :
    Calls Tryd.prog 79 #[.pointer (some ⟨p, 0, none⟩)] w fun e w' => e = .returned (.int .i64 n) ∧ w = w' := by
  go_enter Tryd.func79, Tryd.ntmps79
  go_wp2
  go_ret
  exact ⟨rfl, rfl⟩
theorem take_zero (a : Option Addr) (s : Int) (w : World) (hs : s ≤ 0) :
    Calls Tryd.prog 92 #[.pointer a, .int .i64 s] w fun e w' => e = .returned (.slice none 0 0) ∧ w = w' := by
  go_enter Tryd.func92, Tryd.ntmps92
  go_wp2_with fail
  go_ret
  exact ⟨rfl, rfl⟩
theorem take_none (s : Nat) (w : World) (hs : 0 < s) :
    Calls Tryd.prog 92 #[.pointer none, .int .i64 s] w fun e w' => e = stopped ∧ w = w' := by
  go_enter Tryd.func92, Tryd.ntmps92
  go_wp2_with (go_at_call 79; refine (left_none _).mono ?_; rintro e w' ⟨rfl, rfl⟩)
  exact ⟨rfl, rfl, rfl⟩
theorem take_stop (p : Nat) (A : Option Addr) (n c s : Nat) (w : World) (h : w.cell? ⟨p, 0, none⟩ = some (.slice A n c)) (hs : 0 < s) (hn : n < s) :
    Calls Tryd.prog 92 #[.pointer (some ⟨p, 0, none⟩), .int .i64 s] w fun e w' => e = stopped ∧ w = w' := by
  go_enter Tryd.func92, Tryd.ntmps92
  go_wp2_with (go_at_call 79; refine (left_some _ _ _ _ _ h).mono ?_; rintro e w' ⟨rfl, rfl⟩)
  exact ⟨rfl, rfl, rfl⟩
theorem take_ok (p : Nat) (A : Option Addr) (n c s : Nat) (w : World) (h : w.cell? ⟨p, 0, none⟩ = some (.slice A n c)) (hf : w.frozen? ⟨p, 0, none⟩ = false) (hs : 0 < s) (hn : s ≤ n) (hnc : n ≤ c) (hc : c ≤ 9223372036854775807) :
    Calls Tryd.prog 92 #[.pointer (some ⟨p, 0, none⟩), .int .i64 s] w fun e w' => e = .returned (.slice A s c) ∧
      w.setCell ⟨p, 0, none⟩ (.slice (if c = s then A else A.map (·.add s)) (n - s) (c - s)) = w' := by
  go_enter Tryd.func92, Tryd.ntmps92
  go_wp2_with (go_at_call 79; refine (left_some _ _ _ _ _ h).mono ?_; rintro e w' ⟨rfl, rfl⟩)
  all_goals
    go_ret
    exact ⟨rfl, rfl⟩
theorem last8_take (l : List Int) (s : Nat) (hs : s ≤ 8) : last8 (l.take s) = l.take s := by
  rw [last8, show (l.take s).length - 8 = 0 by rw [List.length_take]; omega]; rfl
theorem setCell_grown (w : World) (p : Nat) (v : Value) : w.grownBy (w.setCell ⟨p, 0, none⟩ v) (some p) :=
  ⟨rfl, rfl, rfl, by simp [World.setCell], fun k _ hk => Below.heap_setCell _ _ _ _ (by intro e; exact hk (by rw [e]))⟩
theorem Rd.set_ {w : World} {p : Nat} {bs : List Int} {s : Nat} {A : Option Addr} {n c : Nat} (h : w.cell? ⟨p, 0, none⟩ = some (.slice A n c)) (hf : w.frozen? ⟨p, 0, none⟩ = false) (hp : p < w.heap.size) (N : Nums .u8 w p A n bs) (hn : s ≤ n) (hnc : n ≤ c) (hc : c ≤ 9223372036854775807) :
    Rd (w.setCell ⟨p, 0, none⟩ (.slice (if c = s then A else A.map (·.add s)) (n - s) (c - s))) p (bs.drop s) :=
  ⟨(if c = s then A else A.map (·.add s)), n - s, c - s, by go_simp, by go_simp, by simpa [World.setCell] using hp, (N.cut hn hnc).below ((Below.refl _ _).setCell (p := ⟨p, 0, none⟩) (Nat.le_refl _) _), by omega, by omega⟩
def NumRet (w : World) (p : Nat) (bs : List Int) (s : Nat) (e : Ending) (w' : World) : Prop := e = .returned (.int .u64 (getZ (bs.take s))) ∧ Rd w' p (bs.drop s) ∧ w.grownBy w' (some p)
set_option maxRecDepth 100000 in
theorem num_zero (a : Option Addr) (size : Int) (w : World) (h1 : -9223372036854775808 ≤ size) (hs : size ≤ 0) :
    Calls Tryd.prog 97 #[.pointer a, .int .i64 size] w fun e w' => e = .returned (.int .u64 0) ∧ w = w' := by
  have e0 : (fitN size : Int) = 0 := by rw [fitN_eq]; omega
  go_enter Tryd.func97, Tryd.ntmps97
  go_wp2_with (first
    | (go_at_call 62; refine (fit_any _ _ h1 (by omega)).mono ?_; rintro e w' ⟨rfl, rfl⟩)
    | (go_at_call 92; refine (take_zero _ _ _ (by omega)).mono ?_; rintro e w' ⟨rfl, rfl⟩)
    | (go_at_call 100; refine (get_any none 0 0 [] _ (Nums.none_ 0) (by omega) (by omega) (by omega) (by simp)).mono ?_; rintro e w' ⟨rfl, rfl⟩))
  go_ret
  exact ⟨rfl, rfl⟩
set_option maxRecDepth 100000 in
theorem num_none (size : Int) (w : World) (h1 : 0 < size) (h2 : size ≤ 9223372036854775807) :
    Calls Tryd.prog 97 #[.pointer none, .int .i64 size] w fun e w' => e = stopped ∧ w = w' := by
  have e0 : 0 < fitN size := by have := fitN_eq size; omega
  go_enter Tryd.func97, Tryd.ntmps97
  go_wp2_with (first
    | (go_at_call 62; refine (fit_any _ _ (by omega) h2).mono ?_; rintro e w' ⟨rfl, rfl⟩)
    | (go_at_call 92; refine (take_none _ _ e0).mono ?_; rintro e w' ⟨he, rfl⟩; rw [stopped_eq] at he; subst he))
  exact ⟨rfl, rfl, rfl⟩
set_option maxRecDepth 100000 in
theorem num_stop (p : Nat) (bs : List Int) (size : Int) (w : World) (h : Rd w p bs) (h1 : -9223372036854775808 ≤ size) (h2 : size ≤ 9223372036854775807) (hs : bs.length < fitN size) :
    Calls Tryd.prog 97 #[.pointer (some ⟨p, 0, none⟩), .int .i64 size] w fun e w' => e = stopped ∧ w = w' := by
  obtain ⟨A, n, c, hc, hf, hp, N, hnc, hcm⟩ := h
  have hn : n < fitN size := by rw [← N.len]; exact hs
  clear hf
  have H := Lib.hid hc
  clear hc
  go_enter Tryd.func97, Tryd.ntmps97
  go_wp2_with (first
    | (go_at_call 62; refine (fit_any _ _ h1 h2).mono ?_; rintro e w' ⟨rfl, rfl⟩)
    | (go_at_call 92; refine (take_stop _ _ _ _ _ _ H.out (by omega) hn).mono ?_; rintro e w' ⟨he, rfl⟩; rw [stopped_eq] at he; subst he))
  exact ⟨rfl, rfl, rfl⟩
set_option maxRecDepth 100000 in
theorem num_ok (p : Nat) (bs : List Int) (size : Int) (w : World) (h : Rd w p bs) (h1 : -9223372036854775808 ≤ size) (h2 : size ≤ 9223372036854775807) (hs : fitN size ≤ bs.length) (hy : ∀ x ∈ bs, Byte x) :
    Calls Tryd.prog 97 #[.pointer (some ⟨p, 0, none⟩), .int .i64 size] w (NumRet w p bs (fitN size)) := by
  by_cases h0 : size ≤ 0
  · have e0 : fitN size = 0 := by have := fitN_eq size; omega
    rw [e0]
    exact (num_zero _ size w h1 h0).mono fun e w' ⟨he, hw⟩ => ⟨he, hw ▸ (by simpa using h), hw ▸ World.grownBy.refl _ _⟩
  · obtain ⟨A, n, c, hc, hf, hp, N, hnc, hcm⟩ := h
    have e0 : 0 < fitN size := by have := fitN_eq size; omega
    have hn : fitN size ≤ n := by rw [← N.len]; exact hs
    have h8 := fitN_le size
    have R := Rd.set_ (s := fitN size) hc hf hp N hn hnc hcm
    have N2 : Nums .u8 (w.setCell ⟨p, 0, none⟩ (.slice (if c = fitN size then A else A.map (·.add (fitN size))) (n - fitN size) (c - fitN size))) p A (fitN size) (bs.take (fitN size)) :=
      (N.upto hn).below ((Below.refl _ _).setCell (p := ⟨p, 0, none⟩) (Nat.le_refl _) _)
    have G := setCell_grown w p (.slice (if c = fitN size then A else A.map (·.add (fitN size))) (n - fitN size) (c - fitN size))
    have hz : p ≤ (w.setCell ⟨p, 0, none⟩ (.slice (if c = fitN size then A else A.map (·.add (fitN size))) (n - fitN size) (c - fitN size))).heap.size := by simp [World.setCell]; omega
    have H := Lib.hid hc; have HF := Lib.hid hf
    clear hc hf
    have TK := take_ok p A n c (fitN size) w H.out HF.out e0 hn hnc hcm
    generalize w.setCell ⟨p, 0, none⟩ (.slice (if c = fitN size then A else A.map (·.add (fitN size))) (n - fitN size) (c - fitN size)) = w1 at *
    have EL := Lib.hid (last8_take bs (fitN size) h8)
    go_enter Tryd.func97, Tryd.ntmps97
    go_wp2_with (first
      | (go_at_call 62; refine (fit_any _ _ h1 h2).mono ?_; rintro e w' ⟨rfl, rfl⟩)
      | (go_at_call 92; refine TK.mono ?_; rintro e w' ⟨rfl, rfl⟩)
      | (go_at_call 100; refine (get_any _ _ _ _ _ (N2.more hz) (by omega) (by omega) hcm (fun x hx => hy x (List.mem_of_mem_take hx))).mono ?_; rintro e w' ⟨rfl, rfl⟩))
    go_ret
    exact ⟨ret_int (by rw [EL.out]), R, G⟩
end Go.Proofs.YtniimgbljhmcoaaDoor.octC

/-
  What Try does: a reading that ends, one that stops.
-/
namespace Go.Proofs.YtniimgbljhmcoaaDoor.octC
open Go.ChangeShapes Go.WideShapes Go.ChangeAt Go.RowKit
open Go.Proofs.YtniimgbljhmcoaaDoor.memC
set_option linter.unusedVariables false
theorem catch_idle (p : Addr) (w : World) :
    CallsD Tryd.prog 74 #[.pointer (some p)] .returning w fun e u' w' => e = .returned (.tuple #[]) ∧ u' = .returning ∧ w' = w := by
  refine callsD_of_wpS Tryd.func74 rfl fun c₀ cs hu => ?_
  apply wpS_seq
  apply wpS_region
  simp [wpOpsS, go_sem, recoverD, hu, Tryd.ntmps74, Exit.thenS]
  refine wpS_of_wp ?_
  go_wp2
  all_goals
    cases c₀
    simp_all [bodyPostS, results, Tryd.results74]
theorem assert_stop (w : World) : (Instr.typeAssert (.iface 103 (.agg #[])) 20 103 true).run Tryd.prog w = .ok (.tuple #[.agg #[], .bool true]) w := by kernel_rfl
set_option maxHeartbeats 1000000 in
theorem catch_stop (p : Addr) (x : Value) (older : List PanicEntry) (w : World) (hp : p.block < w.heap.size) (hc : w.cell? p = some x) (hz : w.frozen? p = false) :
    CallsD Tryd.prog 74 #[.pointer (some p)] (.panicking ({ v := .iface 103 (.agg #[]), recovered := false } :: older)) w fun e u' w' =>
      e = .returned (.tuple #[]) ∧ u' = .panicking ({ v := .iface 103 (.agg #[]), recovered := true } :: older) ∧ w' = (w.alloc (.cells #[] 103)).setCell p (.int .i64 4) := by
  have hc' : (w.alloc (.cells #[] 103)).cell? p = some x := (World.cell?_alloc_lt w _ p hp).trans hc
  have hz' : (w.alloc (.cells #[] 103)).frozen? p = false := (((Below.refl w.heap.size w).alloc (Nat.le_refl _) _).frozen hp).trans hz
  clear hc hz
  refine callsD_of_wpS Tryd.func74 rfl fun c₀ cs hu => ?_
  apply wpS_seq
  apply wpS_region
  simp [wpOpsS, go_sem, recoverD, hu, Tryd.ntmps74, Exit.thenS]
  refine wpS_of_wp ?_
  change Code.wp _ _ _ ⟨#[.pointer (some p), .iface 103 (.agg #[]), undef, undef, .iface 103 (.agg #[]), undef, undef, undef, undef, undef, undef, undef, undef, undef, undef], []⟩ _
  have hta := assert_stop
  go_wp2
  all_goals
    cases c₀
    simp_all [bodyPostS, results, Tryd.results74]
/-- what a reading leaves: the result's variable is as it was -/
def Kept (w w1 : World) : Prop := w1.cell? ⟨w.heap.size, 0, none⟩ = some (.int .i64 0) ∧ w1.frozen? ⟨w.heap.size, 0, none⟩ = false
set_option maxRecDepth 100000 in
set_option maxHeartbeats 1000000 in
theorem try_ok (K : FuncId) (cap : Array Value) (w : World) (Q : World → Prop)
    (hent : ∀ w : World, (callFunc K cap).run Tryd.prog w = .ok (.enter K cap) w)
    (hk : Calls Tryd.prog K cap (w.alloc (.cells #[.int .i64 0] 37)) fun e w' => e = .returned (.tuple #[]) ∧ Q w')
    (hq : ∀ w', Q w' → Kept w w') :
    Calls Tryd.prog 41 #[.func (.func K) #[] cap] w fun e w' => e = .returned (.int .i64 0) ∧ ∃ w1, Q w1 ∧ w' = w1.setCell ⟨w.heap.size, 0, none⟩ (.int .i64 0) := by
  have hmf : ∀ (fn : Fn) (first cap : Array Value) (w : World), (Instr.makeFunc fn first cap).run Tryd.prog w = .ok (.func fn first cap) w := fun _ _ _ _ => rfl
  have hne : ∀ w : World, (binOp .eql 1 (.func (.func K) #[] cap) .nilFunc).run Tryd.prog w = .ok (.bool false) w := fun _ => by rfl
  go_enter_defers Tryd.func41, Tryd.ntmps41
  go_wp2_with (refine hk.mono ?_; rintro e w1 ⟨rfl, hQ⟩; obtain ⟨hc, hz⟩ := hq _ hQ)
  refine leaves_cons (f := 74) (args := #[.pointer (some ⟨w.heap.size, 0, none⟩)]) (by simp) (by simp [go_sem]) ?_
  refine (catch_idle ⟨w.heap.size, 0, none⟩ _).mono ?_
  rintro e u' w'' ⟨rfl, rfl, rfl⟩
  simp [Leaves, settle, results, Tryd.results41, go_sem, hc]
  exact ⟨w1, hQ, rfl⟩
set_option maxRecDepth 100000 in
set_option maxHeartbeats 1000000 in
theorem try_stop (K : FuncId) (cap : Array Value) (w : World) (Q : World → Prop)
    (hent : ∀ w : World, (callFunc K cap).run Tryd.prog w = .ok (.enter K cap) w)
    (hk : Calls Tryd.prog K cap (w.alloc (.cells #[.int .i64 0] 37)) fun e w' => e = stopped ∧ Q w')
    (hq : ∀ w', Q w' → Kept w w') :
    Calls Tryd.prog 41 #[.func (.func K) #[] cap] w fun e w' => e = .returned (.int .i64 4) ∧ ∃ w1, Q w1 ∧ w' = (w1.alloc (.cells #[] 103)).setCell ⟨w.heap.size, 0, none⟩ (.int .i64 4) := by
  have hmf : ∀ (fn : Fn) (first cap : Array Value) (w : World), (Instr.makeFunc fn first cap).run Tryd.prog w = .ok (.func fn first cap) w := fun _ _ _ _ => rfl
  have hne : ∀ w : World, (binOp .eql 1 (.func (.func K) #[] cap) .nilFunc).run Tryd.prog w = .ok (.bool false) w := fun _ => by rfl
  go_enter_defers Tryd.func41, Tryd.ntmps41
  go_wp2_with (refine hk.mono ?_; rintro e w1 ⟨he, hQ⟩; rw [stopped_eq] at he; subst he; obtain ⟨hc, hz⟩ := hq _ hQ)
  refine leaves_cons (f := 74) (args := #[.pointer (some ⟨w.heap.size, 0, none⟩)]) (by simp) (by simp [go_sem]) ?_
  refine (catch_stop ⟨w.heap.size, 0, none⟩ _ [] _ (World.block_lt_of_cell? _ _ hc) hc hz).mono ?_
  rintro e u' w'' ⟨rfl, rfl, rfl⟩
  have hc' : (w1.alloc (.cells #[] 103)).cell? ⟨w.heap.size, 0, none⟩ = some (.int .i64 0) := (World.cell?_alloc_lt w1 _ _ (World.block_lt_of_cell? _ _ hc)).trans hc
  simp [Leaves, settle, results, Tryd.results41, go_sem, hc']
  exact ⟨w1, hQ, rfl⟩
end Go.Proofs.YtniimgbljhmcoaaDoor.octC

/-
  What alive does, and its two readings.
-/
namespace Go.Proofs.YtniimgbljhmcoaaDoor.octC
open Go.ChangeShapes Go.WideShapes Go.ChangeAt Go.RowKit
open Go.Proofs.YtniimgbljhmcoaaDoor.memC
set_option linter.unusedVariables false
/-- of the blocks that were there those alone have turned that S names -/
structure Fr (S : Nat → Prop) (w w' : World) : Prop where
  os : w'.os = w.os
  tape : w'.tape = w.tape
  output : w'.output = w.output
  size : w.heap.size ≤ w'.heap.size
  block : ∀ k, k < w.heap.size → ¬ S k → w'.heap[k]? = w.heap[k]?
section
variable {S : Nat → Prop} {w w1 w2 : World}
theorem Fr.below (h : Below w.heap.size w w1) : Fr S w w1 := ⟨h.os, h.tape, h.output, h.size, fun k hk _ => h.block k hk⟩
theorem Fr.refl (w : World) : Fr S w w := Fr.below (Below.refl _ _)
theorem Fr.trans (h : Fr S w w1) (h' : Fr S w1 w2) : Fr S w w2 :=
  ⟨h'.os.trans h.os, h'.tape.trans h.tape, h'.output.trans h.output, Nat.le_trans h.size h'.size, fun k hk hn => (h'.block k (Nat.lt_of_lt_of_le hk h.size) hn).trans (h.block k hk hn)⟩
theorem Fr.grown {row : Option Nat} (h : w.grownBy w1 row) (hr : ∀ k, row = some k → k < w.heap.size → S k) : Fr S w w1 :=
  ⟨h.os, h.tape, h.output, h.size, fun k hk hn => h.block k hk (fun e => hn (hr k e.symm hk))⟩
theorem Fr.alloc (w : World) (o : Obj) : Fr S w (w.alloc o) := Fr.below ((Below.refl _ _).alloc (Nat.le_refl _) _)
theorem Fr.setCell {p : Nat} (w : World) (h : p < w.heap.size → S p) (v : Value) : Fr S w (w.setCell ⟨p, 0, none⟩ v) :=
  ⟨rfl, rfl, rfl, by simp [World.setCell], fun k hk hn => Below.heap_setCell _ _ _ _ (by rintro rfl; exact hn (h hk))⟩
theorem Fr.cell (h : Fr S w w1) {a : Addr} (ha : a.block < w.heap.size) (hn : ¬ S a.block) : w1.cell? a = w.cell? a := World.cell?_of_block (w := w) (h.block _ ha hn)
theorem Fr.frozen (h : Fr S w w1) {a : Addr} (ha : a.block < w.heap.size) (hn : ¬ S a.block) : w1.frozen? a = w.frozen? a := World.frozen?_of_block (w := w) (h.block _ ha hn)
theorem Fr.mono {S' : Nat → Prop} (h : Fr S w w1) (hS : ∀ k, k < w.heap.size → S k → S' k) : Fr S' w w1 := ⟨h.os, h.tape, h.output, h.size, fun k hk hn => h.block k hk fun hs => hn (hS k hk hs)⟩
end
/-- Try of a reading that ends -/
theorem try_end (K : FuncId) (cap : Array Value) (w : World) (S : Nat → Prop) (R : World → Prop) (hS : ∀ k, S k → k < w.heap.size)
    (hent : ∀ w : World, (callFunc K cap).run Tryd.prog w = .ok (.enter K cap) w)
    (hR : ∀ w1 w2, Below w.heap.size w1 w2 → R w1 → R w2)
    (hk : Calls Tryd.prog K cap (w.alloc (.cells #[.int .i64 0] 37)) fun e w' => e = .returned (.tuple #[]) ∧ Fr S (w.alloc (.cells #[.int .i64 0] 37)) w' ∧ R w') :
    Calls Tryd.prog 41 #[.func (.func K) #[] cap] w fun e w' => e = .returned (.int .i64 0) ∧ Fr S w w' ∧ R w' := by
  have hsz : (w.alloc (.cells #[.int .i64 0] 37)).heap.size = w.heap.size + 1 := by simp
  refine (try_ok K cap w _ hent hk fun w' ⟨F, _⟩ => ⟨?_, ?_⟩).mono ?_
  · rw [F.cell (a := ⟨w.heap.size, 0, none⟩) (by rw [hsz]; exact Nat.lt_succ_self _) (fun h => Nat.lt_irrefl _ (hS _ h))]; go_simp
  · rw [F.frozen (a := ⟨w.heap.size, 0, none⟩) (by rw [hsz]; exact Nat.lt_succ_self _) (fun h => Nat.lt_irrefl _ (hS _ h))]; go_simp
  · rintro e w' ⟨rfl, w1, ⟨F, hr⟩, rfl⟩
    have F1 : Fr S w w1 := (Fr.alloc w _).trans F
    refine ⟨rfl, ?_, hR _ _ ((Below.refl _ _).setCell (p := ⟨w.heap.size, 0, none⟩) (Nat.le_refl _) _) hr⟩
    refine ⟨F1.os, F1.tape, F1.output, by simpa [World.setCell] using F1.size, fun k hk hn => ?_⟩
    rw [Below.heap_setCell _ _ _ _ (by show k ≠ w.heap.size; omega)]
    exact F1.block k hk hn
/-- Try of a reading that stops -/
theorem try_halt (K : FuncId) (cap : Array Value) (w : World) (S : Nat → Prop) (R : World → Prop) (hS : ∀ k, S k → k < w.heap.size)
    (hent : ∀ w : World, (callFunc K cap).run Tryd.prog w = .ok (.enter K cap) w)
    (hR : ∀ w1 w2, Below w.heap.size w1 w2 → R w1 → R w2)
    (hk : Calls Tryd.prog K cap (w.alloc (.cells #[.int .i64 0] 37)) fun e w' => e = stopped ∧ Fr S (w.alloc (.cells #[.int .i64 0] 37)) w' ∧ R w') :
    Calls Tryd.prog 41 #[.func (.func K) #[] cap] w fun e w' => e = .returned (.int .i64 4) ∧ Fr S w w' ∧ R w' := by
  have hsz : (w.alloc (.cells #[.int .i64 0] 37)).heap.size = w.heap.size + 1 := by simp
  refine (try_stop K cap w _ hent hk fun w' ⟨F, _⟩ => ⟨?_, ?_⟩).mono ?_
  · rw [F.cell (a := ⟨w.heap.size, 0, none⟩) (by rw [hsz]; exact Nat.lt_succ_self _) (fun h => Nat.lt_irrefl _ (hS _ h))]; go_simp
  · rw [F.frozen (a := ⟨w.heap.size, 0, none⟩) (by rw [hsz]; exact Nat.lt_succ_self _) (fun h => Nat.lt_irrefl _ (hS _ h))]; go_simp
  · rintro e w' ⟨rfl, w1, ⟨F, hr⟩, rfl⟩
    have F1 : Fr S w w1 := (Fr.alloc w _).trans F
    have F2 : Fr S w (w1.alloc (.cells #[] 103)) := F1.trans (Fr.alloc _ _)
    refine ⟨rfl, ?_, hR _ _ (((Below.refl _ _).alloc (by have := F1.size; omega) _).setCell (p := ⟨w.heap.size, 0, none⟩) (Nat.le_refl _) _) hr⟩
    refine ⟨F2.os, F2.tape, F2.output, by simpa [World.setCell] using F2.size, fun k hk hn => ?_⟩
    rw [Below.heap_setCell _ _ _ _ (by show k ≠ w.heap.size; omega)]
    exact F2.block k hk hn
end Go.Proofs.YtniimgbljhmcoaaDoor.octC

/-
  What alive does.
-/
namespace Go.Proofs.YtniimgbljhmcoaaDoor.octC
open Go.ChangeShapes Go.WideShapes Go.ChangeAt Go.RowKit
open Go.Proofs.YtniimgbljhmcoaaDoor.memC
set_option linter.unusedVariables false
def Mid (pb pn b o c : Nat) (w : World) : Prop := w.cell? ⟨pb, 0, none⟩ = some (.slice (some ⟨b, o, none⟩) 2 c) ∧ w.cell? ⟨b, o, none⟩ = some (.int .u8 1) ∧ Nums .u8 w w.heap.size (some ⟨b, o, none⟩) 2 [1, 2]
theorem Mid.fr {pb pn b o c : Nat} {S : Nat → Prop} {w w' : World} (h : Mid pb pn b o c w) (F : Fr S w w') (hs : ∀ k, S k → k = pn) (h1 : pb ≠ pn) (h2 : b ≠ pn) : Mid pb pn b o c w' := by
  obtain ⟨h3, h4, N⟩ := h
  refine ⟨(F.cell (World.block_lt_of_cell? _ _ h3) fun h => h1 (hs _ h)).trans h3, (F.cell (World.block_lt_of_cell? _ _ h4) fun h => h2 (hs _ h)).trans h4, N.len, fun hn => ?_⟩
  obtain ⟨b', o', e, hb, hc⟩ := N.at_ hn
  obtain ⟨rfl, rfl⟩ : b = b' ∧ o = o' := by simpa using e
  exact ⟨b, o, rfl, Nat.lt_of_lt_of_le hb F.size, fun i hi => (F.cell hb fun h => h2 (hs _ h)).trans (hc i hi)⟩
end Go.Proofs.YtniimgbljhmcoaaDoor.octC

/-
  The walk of the third statement of octets: what is put is read.
-/
namespace Go.Proofs.YtniimgbljhmcoaaDoor.octC
open Go.ChangeShapes Go.WideShapes Go.ChangeAt Go.RowKit
open Go.Proofs.YtniimgbljhmcoaaDoor.memC
set_option linter.unusedVariables false
theorem numL_byte (s : Nat) (x : Int) : ∀ y ∈ numL s x, Byte y := by
  induction s with
  | zero => intro y hy; cases hy
  | succ s ih =>
    intro y hy
    rcases List.mem_cons.1 hy with rfl | h
    · unfold byteAt; constructor <;> omega
    · exact ih y h
theorem getZ_cons (c : Int) (l : List Int) : getZ (c :: l) = c * 256 ^ l.length + getZ l := by
  have key : ∀ (l : List Int) (a : Int), l.foldl (fun n c => n * 256 + c) a = a * 256 ^ l.length + getZ l := by
    intro l
    induction l with
    | nil => intro a; simp [getZ]
    | cons c l ih =>
      intro a
      have h1 := ih (a * 256 + c)
      have h2 := ih (0 * 256 + c)
      simp only [getZ, List.foldl_cons, List.length_cons] at h1 h2 ⊢
      rw [h1, h2, Int.pow_succ, Int.add_mul]
      simp only [Int.zero_mul, Int.zero_add]
      rw [show a * 256 * 256 ^ l.length = a * (256 ^ l.length * 256) by rw [Int.mul_assoc, Int.mul_comm 256]]
      omega
  have := key l (0 * 256 + c)
  simp only [getZ, List.foldl_cons] at this ⊢
  rw [this]
  simp
theorem getZ_numL (s : Nat) (x : Int) (h : 0 ≤ x) : getZ (numL s x) = x % 256 ^ s := by
  induction s with
  | zero => simp [numL, getZ, Int.emod_one]
  | succ s ih =>
    have e : (2 : Int) ^ (8 * s) = 256 ^ s := by rw [Int.pow_mul]; rfl
    rw [numL, getZ_cons, ih, numL_len, byteAt, e, Int.pow_succ]
    have h1 := Int.emod_emod_of_dvd x (Int.dvd_mul_right (256 ^ s) 256)
    have h2 := Int.mul_ediv_add_emod (x % (256 ^ s * 256)) (256 ^ s)
    have h3 : x % (256 ^ s * 256) / 256 ^ s = x / 256 ^ s % 256 := by
      have hp : (0 : Int) < 256 ^ s := Int.pow_pos (by decide)
      rw [Int.emod_def, Int.emod_def (x / 256 ^ s), Int.ediv_ediv_of_nonneg (Int.le_of_lt hp)]
      rw [show x - 256 ^ s * 256 * (x / (256 ^ s * 256)) = x + 256 ^ s * -(256 * (x / (256 ^ s * 256))) by rw [Int.mul_neg, ← Int.mul_assoc]; omega]
      rw [Int.add_mul_ediv_left _ _ (by omega)]
      omega
    rw [h1, h3] at h2
    rw [Int.mul_comm (x / 256 ^ s % 256)]
    exact h2
end Go.Proofs.YtniimgbljhmcoaaDoor.octC
