/-
  7 texts of a proof, joined.
-/
import Derived.Test.YtdoahlhkbhpgpaaDoorMg6
import Derived.Test.YtdoahlhkbhpgpaaDoorMg7
import Derived.Deep.QuietTactic
import Derived.BigQuiet
import Derived.Laws.BitsAllLaws
import Derived.Great.BuildSlice

namespace Go.Proofs.YtdoahlhkbhpgpaaDoor.adC
open Go.ChangeShapes Go.WideShapes Go.ChangeAt Go.RowKit
open Go.Proofs.YtdoahlhkbhpgpaaDoor.memC Go.Proofs.YtdoahlhkbhpgpaaDoor.genC Go.Proofs.YtdoahlhkbhpgpaaDoor.butC Go.Proofs.YtdoahlhkbhpgpaaDoor.freeC Go.Proofs.YtdoahlhkbhpgpaaDoor.txC
open Go.Proofs.YtdoahlhkbhpgpaaDoor.hexM (strL strL_of of_strL strL_get nib nib_bd)
set_option linter.unusedVariables false
/-- what of the library's variables is read -/
structure Gb (w : World) : Prop where
  ml : ∃ m, w.cell? ⟨0, 0, none⟩ = some (.int .i64 m)
  pow : Lib.TabIs Tryd.prog w "internal/strconv.uint64pow10" .u64 Lib.pow10Tab
  db : w.cell? ⟨7, 15, none⟩ = some (.int .u8 4)
  es : ∃ t p, w.var? Tryd.prog "strconv.ErrSyntax" = some #[.iface t p]
  er : ∃ t p, w.var? Tryd.prog "strconv.ErrRange" = some #[.iface t p]
theorem cell_keep {w w' : World} {p : Addr} {v : Value} (h : w.cell? p = some v) (b : Below w.heap.size w w') : w'.cell? p = some v := by
  rw [b.cell (World.block_lt_of_cell? _ _ h)]; exact h
theorem var_keep {w w' : World} {name : String} {cs : Array Value} (h : w.var? Tryd.prog name = some cs) (b : Below w.heap.size w w') : w'.var? Tryd.prog name = some cs := by
  unfold World.var? at h ⊢
  cases hg : Tryd.prog.globalNamed name with
  | none => rw [hg] at h; cases h
  | some g =>
    rw [hg] at h
    simp only [Option.bind_some] at h ⊢
    have hlt : g < w.heap.size := by
      rcases Nat.lt_or_ge g w.heap.size with h1 | h1
      · exact h1
      · rw [Array.getElem?_eq_none h1] at h; cases h
    rw [b.block g hlt]; exact h
theorem Gb.below {w w' : World} (h : Gb w) (b : Below w.heap.size w w') : Gb w' := by
  obtain ⟨m, hm⟩ := h.ml
  obtain ⟨t, p, h1⟩ := h.es
  obtain ⟨t', p', h2⟩ := h.er
  exact ⟨⟨m, cell_keep hm b⟩, var_keep h.pow b, cell_keep h.db b, ⟨t, p, var_keep h1 b⟩, ⟨t', p', var_keep h2 b⟩⟩
theorem spn_end (c : Int) (k : Nat) (xs : List Int) : spn c (min (k + 1) (xs.length + 1) - 1) xs = spn c k xs := by
  by_cases h : k ≤ xs.length
  · rw [show min (k + 1) (xs.length + 1) - 1 = k by omega]
  · have h1 := splL_len c xs
    rw [show min (k + 1) (xs.length + 1) - 1 = xs.length by omega, spn_few c _ xs (by omega), spn_few c k xs (by omega)]
theorem str_map_L (ls : List ByteArray) : (ls.map strL).map (fun l => Value.string (strOfNums l)) = ls.map Value.string := by
  rw [List.map_map]
  exact List.map_congr_left fun s _ => congrArg Value.string (of_strL s)
/-- a text cut at a byte, at most n - 1 times -/
theorem splitN_any (b : UInt8) (n k : Nat) (hk : n = k + 1) (hk1 : k ≤ 1000) (z c : Int) (hz : z = (n : Int)) (hc : c = (b.toNat : Int)) (xs : List Int) (w : World) (hg : Gb w) (hy : ∀ x ∈ xs, Byte x) (hn : xs.length ≤ 10000) :
    Calls Tryd.prog 20 #[.string (strOfNums xs), .string ⟨#[b]⟩, .int .i64 z] w (SplRet w (spn c k xs)) := by
  subst hk hz hc
  obtain ⟨m, hm⟩ := hg.ml
  have hs := strOfNums_size xs
  have e1 := split_strs b (min (k + 1) (xs.length + 1) - 1) xs hy
  rw [spn_end] at e1
  have hl := Lib.splitB_length_le ⟨#[b]⟩ 0 (min (k + 1) (xs.length + 1) - 1) (strOfNums xs)
  refine (Tryd.strings_SplitN (strOfNums xs) ⟨#[b]⟩ (k + 1) m w (by omega) hm (show 1 ≤ (1 : Nat) by omega) (by omega) (by omega)).mono fun e w' ⟨he, hw⟩ => ?_
  rw [hs] at he hw
  have el : (spn (b.toNat : Int) k xs).length = (Lib.splitB ⟨#[b]⟩ 0 (min (k + 1) (xs.length + 1) - 1) (strOfNums xs)).length := by rw [← e1, List.length_map]
  subst hw
  refine ⟨some ⟨w.heap.size, 0, none⟩, _, _, he, el, ?_, alloc_below _ _⟩
  have et : txts (spn (b.toNat : Int) k xs) = (Lib.splitB ⟨#[b]⟩ 0 (min (k + 1) (xs.length + 1) - 1) (strOfNums xs)).map Value.string := by rw [← e1]; exact str_map_L _
  unfold OwnT
  rw [et, el]
  have hN : (Lib.splitB ⟨#[b]⟩ 0 (min (k + 1) (xs.length + 1) - 1) (strOfNums xs)).length ≤ min (k + 1) (xs.length + 1) := by omega
  refine ⟨by simp, .inr ⟨w.heap.size, min (k + 1) (xs.length + 1), _, rfl, Nat.le_refl _, heap_alloc_new w _, hN, by simp only [maxLen]; omega, by rw [Lib.cellsOf_size hN]; omega, ?_⟩⟩
  simp [Lib.cellsOf]
/-- where '::' stands first -/
def fnd : List Int → Option Nat
  | [] => none
  | x :: r => if (x :: r).take 2 = [58, 58] then some 0 else (fnd r).map (· + 1)
theorem fnd_cons (x : Int) (r : List Int) : fnd (x :: r) = if (x :: r).take 2 = [58, 58] then some 0 else (fnd r).map (· + 1) := rfl
theorem index_gap : ∀ l : List UInt8, Lib.index l [58, 58] = (match fnd (l.map fun c => (c.toNat : Int)) with | some i => (i : Int) | none => -1)
  | [] => rfl
  | x :: l => by
    have ih := index_gap l
    unfold Lib.index
    rw [ih, List.map_cons, fnd_cons]
    have e : ([58, 58] : List UInt8).isPrefixOf (x :: l) = decide ((((x.toNat : Int)) :: l.map fun c : UInt8 => (c.toNat : Int)).take 2 = [58, 58]) := by
      have k : ∀ c : UInt8, ((58 : UInt8) == c) = decide ((c.toNat : Int) = 58) := fun c => by
        rw [Bool.eq_iff_iff, beq_iff_eq, decide_eq_true_eq]
        constructor
        · rintro rfl; rfl
        · intro h; exact (UInt8.toNat_inj.1 (by have : c.toNat = 58 := by omega
                                                exact this)).symm
      cases l with
      | nil => simp [List.isPrefixOf]
      | cons y r =>
        simp only [List.isPrefixOf, k, Bool.and_true, List.map_cons, List.take_succ_cons, List.take_zero, List.cons.injEq, and_true, Bool.decide_and]
    rw [e]
    by_cases h : (((x.toNat : Int)) :: l.map fun c : UInt8 => (c.toNat : Int)).take 2 = [58, 58]
    · rw [if_pos (by simpa using h), if_pos h]; rfl
    · rw [if_neg (by simpa using h), if_neg h]
      cases hf : fnd (l.map fun c : UInt8 => (c.toNat : Int)) with
      | none => rfl
      | some i =>
        simp only [Option.map_some]
        rw [if_neg (by simp)]
        push_cast; rfl
def cutF (xs : List Int) : List Int := match fnd xs with | some i => xs.take i | none => xs
def cutB (xs : List Int) : List Int := match fnd xs with | some i => xs.drop (i + 2) | none => []
def cutS (xs : List Int) : Bool := (fnd xs).isSome
def CutRet (w : World) (F B : ByteArray) (s : Bool) (e : Ending) (w' : World) : Prop := e = .returned (.tuple #[.string F, .string B, .bool s]) ∧ Below w.heap.size w w'
theorem bytes_of (l : List UInt8) (xs : List Int) (h : l.map (fun c => (c.toNat : Int)) = xs) : (⟨l.toArray⟩ : ByteArray) = strOfNums xs := by
  have h1 := of_strL ⟨l.toArray⟩
  rw [← h1]
  congr 1
theorem cut_any (xs : List Int) (w : World) (hg : Gb w) (hy : ∀ x ∈ xs, Byte x) (hn : xs.length ≤ 10000) :
    Calls Tryd.prog 22 #[.string (strOfNums xs), .string ⟨#[58, 58]⟩] w (CutRet w (strOfNums (cutF xs)) (strOfNums (cutB xs)) (cutS xs)) := by
  obtain ⟨m, hm⟩ := hg.ml
  have hs := strOfNums_size xs
  have hx : (strOfNums xs).data.toList.map (fun c => (c.toNat : Int)) = xs := strL_of xs hy
  refine (Tryd.strings_Cut (strOfNums xs) ⟨#[58, 58]⟩ m w (by omega) hm).mono fun e w' ⟨he, n, hw⟩ => ?_
  subst hw
  refine ⟨?_, bel_drewN (Below.refl _ _) n⟩
  have hi := index_gap (strOfNums xs).data.toList
  rw [hx] at hi
  have e0 : (⟨#[58, 58]⟩ : ByteArray).data.toList = [58, 58] := rfl
  rw [he, e0]
  unfold Lib.cut cutF cutB cutS
  cases hf : fnd xs with
  | none =>
    rw [hf] at hi
    simp only at hi
    rw [hi, if_neg (by decide)]
    rw [bytes_of _ xs hx, bytes_of [] [] rfl]
    rfl
  | some i =>
    rw [hf] at hi
    simp only at hi
    rw [hi, if_pos (by omega)]
    simp only [Int.toNat_natCast]
    rw [bytes_of _ (xs.take i) (by rw [List.map_take, hx]), bytes_of _ (xs.drop (i + 2)) (by rw [List.map_drop, hx]; rfl)]
    rfl
/-- what reading a number gives: the value, or an error -/
def PuOk (w : World) (n : Int) (e : Ending) (w' : World) : Prop := e = .returned (.tuple #[.int .u64 n, .nilIface]) ∧ Below w.heap.size w w'
def PuNo (w : World) (e : Ending) (w' : World) : Prop := ∃ (v : Int) (t : TypeId) (p : Addr), e = .returned (.tuple #[.int .u64 v, .iface t (.pointer (some p))]) ∧ 0 ≤ v ∧ v ≤ 65535 ∧ Below w.heap.size w w'
theorem convBelow (w : World) (T : TypeId) (S : ByteArray) : Below w.heap.size w (Lib.bytesWorld w T S) :=
  ⟨rfl, rfl, rfl, by rw [Lib.bytesWorld_size]; omega, fun g hg => Lib.bytesWorld_at_old w T S g hg⟩
theorem pu10_ok (xs : List Int) (w : World) (hy : ∀ x ∈ xs, Byte x) (h3 : xs.length ≤ 3) (hz : 1 < xs.length → xs.getD 0 0 ≠ 48) (h : 0 ≤ bofL xs) :
    Calls Tryd.prog 29 #[.string (strOfNums xs), .int .i64 10, .int .i64 8] w (PuOk w (bofL xs)) := by
  have hs := strOfNums_size xs
  rcases num_end hy h3 hz with ⟨u, h1, h2⟩ | ⟨_, h2⟩ | ⟨_, h2⟩
  · rw [h2]
    refine (Tryd.strconv_ParseUint_10_at8_ok (strOfNums xs) (by omega) u (by rw [str_data]; exact h1) w).mono fun e w' ⟨he, hw⟩ => ⟨he, ?_⟩
    rcases hw with rfl | rfl
    · exact Below.refl _ _
    · exact convBelow _ _ _
  · omega
  · omega
theorem pu10_no (xs : List Int) (w : World) (hg : Gb w) (hy : ∀ x ∈ xs, Byte x) (h3 : xs.length ≤ 3) (hz : 1 < xs.length → xs.getD 0 0 ≠ 48) (h : ¬ 0 ≤ bofL xs) :
    Calls Tryd.prog 29 #[.string (strOfNums xs), .int .i64 10, .int .i64 8] w (PuNo w) := by
  have hs := strOfNums_size xs
  rcases num_end hy h3 hz with ⟨u, h1, h2⟩ | ⟨h1, h2⟩ | ⟨h1, h2⟩
  · omega
  · obtain ⟨t, p, hv⟩ := hg.es
    refine (Tryd.strconv_ParseUint_10_at8_syntax_var (strOfNums xs) (by omega) (by rw [str_data]; exact h1) t p w hv).mono fun e w' ⟨N, he, _, _, hb⟩ => ⟨0, _, _, he, by omega, by omega, hb⟩
  · obtain ⟨t, p, hv⟩ := hg.er
    refine (Tryd.strconv_ParseUint_10_at8_range_var (strOfNums xs) (by omega) (by rw [str_data]; exact h1) t p w hv).mono fun e w' ⟨N, he, _, _, hb⟩ => ⟨255, _, _, he, by omega, by omega, hb⟩
end Go.Proofs.YtdoahlhkbhpgpaaDoor.adC

namespace Go.Proofs.YtdoahlhkbhpgpaaDoor.adC
open Go.ChangeShapes Go.WideShapes Go.ChangeAt Go.RowKit
open Go.Proofs.YtdoahlhkbhpgpaaDoor.memC Go.Proofs.YtdoahlhkbhpgpaaDoor.genC Go.Proofs.YtdoahlhkbhpgpaaDoor.butC Go.Proofs.YtdoahlhkbhpgpaaDoor.freeC Go.Proofs.YtdoahlhkbhpgpaaDoor.txC
set_option linter.unusedVariables false
/-- a number and yes; any number and no -/
def NoRet (k : IntKind) (w : World) (e : Ending) (w' : World) : Prop := ∃ v : Int, e = .returned (.tuple #[.int k v, .bool false]) ∧ Below w.heap.size w w'
set_option maxRecDepth 100000 in
set_option maxHeartbeats 1000000 in
theorem number_ok (xs : List Int) (w : World) (hy : ∀ x ∈ xs, Byte x) (h : 0 ≤ bofL xs) :
    Calls Tryd.prog 21 #[.string (strOfNums xs)] w (Ret w (.tuple #[.int .u8 (bofL xs), .bool true])) := by
  have h3 : xs.length ≤ 3 := by
    rcases Nat.lt_or_ge 3 xs.length with h1 | h1
    · have := bof_long h1; omega
    · exact h1
  have hz : 1 < xs.length → xs.getD 0 0 ≠ 48 := fun h1 h2 => by have := bof_zero h1 h2; omega
  have PU := Lib.hid (pu10_ok xs w hy h3 hz h)
  obtain ⟨n, hn⟩ : ∃ n, n = bofL xs := ⟨_, rfl⟩
  have hb := bofL_le xs
  rw [← hn] at PU h hb ⊢
  obtain ⟨L, hL⟩ : ∃ L, L = xs.length := ⟨_, rfl⟩
  have hsz : (strOfNums xs).size = L := by rw [strOfNums_size, hL]
  have IDX := Lib.hid (fun (hi : 0 < L) (w' : World) => str_at (xs := xs) hy (i := 0) (by omega) (z := 0) rfl w')
  have hw : IntKind.u8.wrap n = n := by rw [IntKind.wrap_u8]; omega
  rw [← hL] at h3 hz
  generalize strOfNums xs = S0 at *
  generalize xs.getD 0 0 = x0 at *
  have hz3 : ¬ (3 : Int) < (L : Int) := by omega
  clear hn hL hy
  by_cases h1 : 1 < L
  · have hz1 : (1 : Int) < (L : Int) := by omega
    have hx : (x0 == 48) = false := by simpa using hz h1
    have ID := Lib.hid (IDX.out (by omega))
    clear hz h3 IDX
    go_enter Tryd.func21, Tryd.ntmps21
    go_upto_region 4 with (first
      | (refine wpList_runG (by rfl) _ (index_run rfl rfl rfl (ID.out _)) ?_)
      | (go_at_call 29; (with_reducible refine PU.out.mono ?_); rintro e w1 ⟨rfl, B1⟩
         have B1 := Lib.hid B1))
    go_quiet (fail)
    go_wp2_with fail
    go_ret2
    exact ⟨rfl, bel_drewN B1.out _⟩
  · have hz1 : ¬ (1 : Int) < (L : Int) := by omega
    clear hz h3 IDX
    go_enter Tryd.func21, Tryd.ntmps21
    go_upto_region 4 with (first
      | (go_at_call 29; (with_reducible refine PU.out.mono ?_); rintro e w1 ⟨rfl, B1⟩
         have B1 := Lib.hid B1))
    go_quiet (fail)
    go_wp2_with fail
    go_ret2
    exact ⟨rfl, bel_drewN B1.out _⟩
set_option maxRecDepth 100000 in
set_option maxHeartbeats 1000000 in
theorem number_no (xs : List Int) (w : World) (hg : Gb w) (hy : ∀ x ∈ xs, Byte x) (hn : xs.length ≤ 10000) (h : ¬ 0 ≤ bofL xs) :
    Calls Tryd.prog 21 #[.string (strOfNums xs)] w (NoRet .u8 w) := by
  obtain ⟨L, hL⟩ : ∃ L, L = xs.length := ⟨_, rfl⟩
  have hsz : (strOfNums xs).size = L := by rw [strOfNums_size, hL]
  have hn1 : L ≤ 10000 := by omega
  have IDX := Lib.hid (fun (hi : 0 < L) (w' : World) => str_at (xs := xs) hy (i := 0) (by omega) (z := 0) rfl w')
  by_cases h4 : 3 < L
  · have hz : (3 : Int) < (L : Int) := by omega
    generalize strOfNums xs = S0 at *
    clear hL hy IDX h
    go_enter Tryd.func21, Tryd.ntmps21
    go_wp2_with fail
    go_ret2
    exact ⟨0, rfl, Below.refl _ _⟩
  · have hz3 : ¬ (3 : Int) < (L : Int) := by omega
    by_cases h1 : 1 < L
    · have hz1 : (1 : Int) < (L : Int) := by omega
      have ID := Lib.hid (IDX.out (by omega))
      by_cases h0 : xs.getD 0 0 = 48
      · have hx : (xs.getD 0 0 == 48) = true := by simpa using h0
        generalize strOfNums xs = S0 at *
        generalize xs.getD 0 0 = x0 at *
        clear hL hy IDX h h0
        go_enter Tryd.func21, Tryd.ntmps21
        go_wp2_with (first
          | (refine wpList_runG (by rfl) _ (index_run rfl rfl rfl (ID.out _)) ?_))
        go_ret2
        exact ⟨0, rfl, Below.refl _ _⟩
      · have hx : (xs.getD 0 0 == 48) = false := by simpa using h0
        have PU := Lib.hid (pu10_no xs w hg hy (by omega) (fun _ => h0) h)
        generalize strOfNums xs = S0 at *
        generalize xs.getD 0 0 = x0 at *
        clear hL hy IDX h h0 hg
        go_enter Tryd.func21, Tryd.ntmps21
        go_upto_region 4 with (first
          | (refine wpList_runG (by rfl) _ (index_run rfl rfl rfl (ID.out _)) ?_)
          | (go_at_call 29; (with_reducible refine PU.out.mono ?_); rintro e w1 ⟨v, t, p, rfl, v0, v1, B1⟩
             have B1 := Lib.hid B1))
        go_quiet (fail)
        go_wp2_with fail
        go_ret2
        exact ⟨_, rfl, bel_drewN B1.out _⟩
    · have hz1 : ¬ (1 : Int) < (L : Int) := by omega
      have PU := Lib.hid (pu10_no xs w hg hy (by omega) (fun h' => absurd h' (by omega)) h)
      generalize strOfNums xs = S0 at *
      clear hL hy IDX h hg
      go_enter Tryd.func21, Tryd.ntmps21
      go_upto_region 4 with (first
        | (go_at_call 29; (with_reducible refine PU.out.mono ?_); rintro e w1 ⟨v, t, p, rfl, v0, v1, B1⟩
           have B1 := Lib.hid B1))
      go_quiet (fail)
      go_wp2_with fail
      go_ret2
      exact ⟨_, rfl, bel_drewN B1.out _⟩
end Go.Proofs.YtdoahlhkbhpgpaaDoor.adC

namespace Go.Proofs.YtdoahlhkbhpgpaaDoor.adC
open Go.ChangeShapes Go.WideShapes Go.ChangeAt Go.RowKit
open Go.Proofs.YtdoahlhkbhpgpaaDoor.memC Go.Proofs.YtdoahlhkbhpgpaaDoor.genC Go.Proofs.YtdoahlhkbhpgpaaDoor.butC Go.Proofs.YtdoahlhkbhpgpaaDoor.freeC Go.Proofs.YtdoahlhkbhpgpaaDoor.txC
open Go.Proofs.YtdoahlhkbhpgpaaDoor.hexM (strL strL_of of_strL strL_get nib nib_bd)
set_option linter.unusedVariables false
/-- a letter made small -/
def lw (c : Int) : Int := bits .or .u8 c 32
theorem lw_bd (c : Int) : 0 ≤ lw c ∧ lw c ≤ 255 := ⟨bits_lo_u8 .or c 32, bits_hi_u8 .or c 32⟩
/-- a sign's number -/
def dg (c : Int) : Int := if 48 ≤ c ∧ c ≤ 57 then c - 48 else if 97 ≤ lw c ∧ lw c ≤ 122 then lw c - 87 else 99
theorem dg_all : ∀ n : Nat, n < 256 → (if nib n ≤ 15 then dg n = nib n else 16 ≤ dg n) := by decide +kernel
theorem dg_nib {c : Int} (h : Byte c) : (nib c ≤ 15 → dg c = nib c) ∧ (¬ nib c ≤ 15 → 16 ≤ dg c) := by
  unfold Byte at h
  have h1 := dg_all c.toNat (by omega)
  rw [show ((c.toNat : Nat) : Int) = c by omega] at h1
  exact ⟨fun h2 => by rwa [if_pos h2] at h1, fun h2 => by rwa [if_neg h2] at h1⟩
theorem dg_bd (c : Int) : (48 ≤ c ∧ c ≤ 57 → dg c = c - 48) ∧ (¬ (48 ≤ c ∧ c ≤ 57) → 97 ≤ lw c ∧ lw c ≤ 122 → dg c = lw c - 87) ∧ (¬ (48 ≤ c ∧ c ≤ 57) → ¬ (97 ≤ lw c ∧ lw c ≤ 122) → dg c = 99) := by
  refine ⟨fun h => by rw [dg, if_pos h], fun h h2 => by rw [dg, if_neg h, if_pos h2], fun h h2 => by rw [dg, if_neg h, if_neg h2]⟩
theorem lower_any (c : Int) (w : World) : Calls Tryd.prog 52 #[.int .u8 c] w fun e w' => e = .returned (.int .u8 (lw c)) ∧ w = w' := by
  go_enter Tryd.func52, Tryd.ntmps52
  go_wp2_with fail
  go_ret
  exact ⟨rfl, rfl⟩
/-- what the library's reading by sixteens gives: none: a sign that is none -/
def pu16 : List Int → Nat → Option Nat
  | [], n => some n
  | x :: r, n => if dg x < 16 then pu16 r (n * 16 + (dg x).toNat) else none
theorem pu16_gof : ∀ (xs : List Int) (n : Nat), (∀ x ∈ xs, Byte x) → (match pu16 xs n with | some m => gofF xs n = m | none => gofF xs n = -1)
  | [], n, _ => rfl
  | x :: r, n, h => by
    obtain ⟨h1, h2⟩ := dg_nib (h x (by simp))
    have ih := pu16_gof r
    unfold pu16 gofF
    by_cases hn : nib x ≤ 15
    · rw [if_pos (by rw [h1 hn]; omega), if_pos hn, h1 hn]
      exact ih _ fun y hy => h y (by simp [hy])
    · have := h2 hn
      rw [if_neg (by omega), if_neg hn]
abbrev eSyn : Value := .iface 91 (.int .i64 2)
/-- the library's inner reading -/
def InRet (w : World) (o : Option Nat) (e : Ending) (w' : World) : Prop :=
  (match o with | some n => e = .returned (.tuple #[.int .u64 n, .nilIface]) | none => e = .returned (.tuple #[.int .u64 0, eSyn])) ∧ Below w.heap.size w w'
end Go.Proofs.YtdoahlhkbhpgpaaDoor.adC

namespace Go.Proofs.YtdoahlhkbhpgpaaDoor.adC
open Go.ChangeShapes Go.WideShapes Go.ChangeAt Go.RowKit
open Go.Proofs.YtdoahlhkbhpgpaaDoor.memC Go.Proofs.YtdoahlhkbhpgpaaDoor.genC Go.Proofs.YtdoahlhkbhpgpaaDoor.butC Go.Proofs.YtdoahlhkbhpgpaaDoor.freeC Go.Proofs.YtdoahlhkbhpgpaaDoor.txC
open Go.Proofs.YtdoahlhkbhpgpaaDoor.hexM (strL strL_of of_strL strL_get nib nib_bd)
set_option linter.unusedVariables false
theorem cell_conv (w : World) (T : TypeId) (xs : List Int) (hy : ∀ x ∈ xs, Byte x) {j : Nat} (hj : j < xs.length) : (Lib.bytesWorld w T (strOfNums xs)).cell? ⟨w.heap.size, j, none⟩ = some (.int .u8 (xs.getD j 0)) := by
  have hs := strOfNums_size xs
  rw [Lib.bytesWorld_cell w T _ j (by omega), str_data]
  congr 1
  have hb := getD_byte hy hj
  rw [List.getD_eq_getElem?_getD, List.getD_eq_getElem?_getD, List.getElem?_map, List.getElem?_eq_getElem hj] at *
  simp only [Option.map_some, Option.getD_some] at *
  exact congrArg (Value.int .u8) (toB_nat hb)
structure P16 (xs : List Int) (R : Option Nat) (k : Nat) (a : Int) : Prop where
  ex : ∃ acc : Nat, a = acc ∧ acc < 16 ^ k ∧ pu16 (xs.drop k) acc = R
theorem P16.next {xs : List Int} {R : Option Nat} {k : Nat} {a d : Int} (h : P16 xs R k a) (hk : k < xs.length) (hd : dg (xs.getD k 0) = d) (h0 : 0 ≤ d) (h1 : d < 16) : P16 xs R (k + 1) (a * 16 + d) := by
  obtain ⟨acc, ha, hlt, hp⟩ := h.ex
  have hdr : xs.drop k = xs.getD k 0 :: xs.drop (k + 1) := by
    rw [List.getD_eq_getElem?_getD, List.getElem?_eq_getElem hk]
    exact List.drop_eq_getElem_cons hk
  rw [hdr, pu16, if_pos (by omega), hd] at hp
  exact ⟨acc * 16 + d.toNat, by omega, by rw [Nat.pow_succ]; omega, hp⟩
theorem P16.stop {xs : List Int} {R : Option Nat} {k : Nat} {a : Int} (h : P16 xs R k a) (hk : k < xs.length) (hd : 16 ≤ dg (xs.getD k 0)) : R = none := by
  obtain ⟨acc, ha, hlt, hp⟩ := h.ex
  have hdr : xs.drop k = xs.getD k 0 :: xs.drop (k + 1) := by
    rw [List.getD_eq_getElem?_getD, List.getElem?_eq_getElem hk]
    exact List.drop_eq_getElem_cons hk
  rw [hdr, pu16, if_neg (by omega)] at hp
  exact hp.symm
theorem P16.small {xs : List Int} {R : Option Nat} {k : Nat} {a : Int} (h : P16 xs R k a) (hk : k ≤ 3) : 0 ≤ a ∧ a ≤ 4095 := by
  obtain ⟨acc, ha, hlt, hp⟩ := h.ex
  have := pow_small hlt hk
  omega
theorem P16.fin {xs : List Int} {R : Option Nat} {k : Nat} {a : Int} (h : P16 xs R k a) (hk : xs.length ≤ k) : ∃ n : Nat, R = some n ∧ a = n := by
  obtain ⟨acc, ha, hlt, hp⟩ := h.ex
  rw [List.drop_eq_nil_of_le hk] at hp
  exact ⟨acc, hp.symm, ha⟩
theorem lw_95 : 122 < lw 95 := by decide
set_option maxRecDepth 100000 in
set_option maxHeartbeats 2000000 in
theorem in16_any (xs : List Int) (w : World) (hy : ∀ x ∈ xs, Byte x) (h0 : xs ≠ []) (h4 : xs.length ≤ 4) :
    Calls Tryd.prog 40 #[.string (strOfNums xs), .int .i64 16, .int .i64 16] w (InRet w (pu16 xs 0)) := by
  obtain ⟨L, hL⟩ : ∃ L, L = xs.length := ⟨_, rfl⟩
  have hsz : (strOfNums xs).size = L := by rw [strOfNums_size, hL]
  have hL4 : L ≤ 4 := by omega
  have hn0 : ¬ (strOfNums xs).toList = [] := by rw [str_emp]; exact h0
  have hn1 : (strOfNums xs).toList.isEmpty = false := by simpa using hn0
  have hcv := Lib.run_convert_string_bytes (P := Tryd.prog) w 9 26 5 (strOfNums xs) (u := .string) Tryd.underlying9 Tryd.underlying26 Tryd.underlying5
  have CC := Lib.hid (fun (j : Nat) (hj : j < L) => cell_conv w 5 xs hy (j := j) (by omega))
  have HB := Lib.hid (convBelow w 5 (strOfNums xs))
  have BY := Lib.hid (fun (j : Nat) (hj : j < L) => getD_byte hy (k := j) (by omega))
  obtain ⟨R, hR⟩ : ∃ R, R = pu16 xs 0 := ⟨_, rfl⟩
  have HP := Lib.hid (show P16 xs R 0 0 from ⟨0, rfl, by decide, hR.symm⟩)
  have HL := Lib.hid hL
  rw [← hR]
  rw [hsz] at hcv
  generalize grownCap w L 0 5 = cap at *
  generalize hW1 : Lib.bytesWorld w 5 (strOfNums xs) = w1 at *
  generalize strOfNums xs = S0 at *
  have hmv : IntKind.u64.wrap (IntKind.u64.wrap 65536 - 1) = 65535 := by decide
  clear hR hW1 hy h0 h4 hL
  go_enter Tryd.func40, Tryd.ntmps40
  go_wp2_with fail
  go_loop [12, 13, 101] (fun vu vn vi => ∃ (k : Nat) (a : Int), vu = .bool false ∧ vn = .int .u64 a ∧ vi = .int .i64 k ∧ k ≤ L ∧ P16 xs R k a) (fun _ _ vi => L - (intOf vi).toNat)
  case atStart => exact ⟨0, 0, rfl, rfl, rfl, by omega, HP.out⟩
  case round =>
    obtain ⟨k, a, rfl, rfl, rfl, hk, hp⟩ := hrel
    have HQ := Lib.hid hp
    by_cases hlt : k < L
    · have hc := CC.out k hlt
      have hkz : (k : Int) < (L : Int) := by omega
      have NX := Lib.hid (fun (d : Int) => hp.next (d := d) (by rw [← HL.out]; exact hlt))
      have ST := Lib.hid (hp.stop (by rw [← HL.out]; exact hlt))
      obtain ⟨x0, x1⟩ := BY.out k hlt
      obtain ⟨a0, a1⟩ := hp.small (by omega)
      obtain ⟨g1, g2, g3⟩ := dg_bd (xs.getD k 0)
      have G1 := Lib.hid g1; have G2 := Lib.hid g2; have G3 := Lib.hid g3
      obtain ⟨l0, l1⟩ := lw_bd (xs.getD k 0)
      have LA := Lib.hid (fun w' => lower_any (xs.getD k 0) w')
      have L95 := Lib.hid (show xs.getD k 0 = 95 → 122 < lw (xs.getD k 0) from fun e => by rw [e]; exact lw_95)
      generalize lw (xs.getD k 0) = lx at *
      generalize xs.getD k 0 = x at *
      clear hp g1 g2 g3
      by_cases hdig : 48 ≤ x ∧ x ≤ 57
      · obtain ⟨d0, d1⟩ := hdig
        have HN := Lib.hid (NX.out (x - 48) (G1.out ⟨d0, d1⟩) (by omega) (by omega))
        have n95 : (x == 95) = false := by simp; omega
        have q1 : ¬ 16 ≤ x - 48 := by omega
        have q2 : ¬ 1152921504606846976 ≤ a := by omega
        have q3 : ¬ a * 16 + (x - 48) < a * 16 := by omega
        have q4 : ¬ 65535 < a * 16 + (x - 48) := by omega
        have q5 : ¬ a * 16 + x - 48 < a * 16 := by omega
        go_wp2_with fail
        go_round
        case rel => exact ⟨k + 1, a * 16 + (x - 48), rfl, rfl, by go_num, by omega, HN.out⟩
        case measure => simp [intOf]; omega
      · by_cases hlet : 97 ≤ lx ∧ lx ≤ 122
        · obtain ⟨e0, e1⟩ := hlet
          have n95 : (x == 95) = false := by
            rw [beq_eq_false_iff_ne]; intro e; have := L95.out e; omega
          have HD := Lib.hid (G2.out hdig ⟨e0, e1⟩)
          by_cases hs : lx - 97 + 10 < 16
          · have HN := Lib.hid (NX.out (lx - 97 + 10) (by rw [HD.out]; omega) (by omega) (by omega))
            have q1 : ¬ 16 ≤ lx - 97 + 10 := by omega
            have q2 : ¬ 1152921504606846976 ≤ a := by omega
            have q3 : ¬ a * 16 + (lx - 97 + 10) < a * 16 := by omega
            have q4 : ¬ 65535 < a * 16 + (lx - 97 + 10) := by omega
            by_cases h48 : 48 ≤ x
            · have h57 : ¬ x ≤ 57 := fun h => hdig ⟨h48, h⟩
              go_wp2_with (first | (go_at_call 52; (with_reducible refine (LA.out _).mono ?_); rintro e w' ⟨rfl, rfl⟩))
              go_round
              case rel => exact ⟨k + 1, a * 16 + (lx - 97 + 10), rfl, rfl, by go_num, by omega, HN.out⟩
              case measure => simp [intOf]; omega
            · go_wp2_with (first | (go_at_call 52; (with_reducible refine (LA.out _).mono ?_); rintro e w' ⟨rfl, rfl⟩))
              go_round
              case rel => exact ⟨k + 1, a * 16 + (lx - 97 + 10), rfl, rfl, by go_num, by omega, HN.out⟩
              case measure => simp [intOf]; omega
          · have HR := Lib.hid (ST.out (by rw [HD.out]; omega))
            have q1 : 16 ≤ lx - 97 + 10 := by omega
            by_cases h48 : 48 ≤ x
            · have h57 : ¬ x ≤ 57 := fun h => hdig ⟨h48, h⟩
              go_wp2_with (first | (go_at_call 52; (with_reducible refine (LA.out _).mono ?_); rintro e w' ⟨rfl, rfl⟩))
              go_ret2
              rw [HR.out]
              exact ⟨rfl, HB.out⟩
            · go_wp2_with (first | (go_at_call 52; (with_reducible refine (LA.out _).mono ?_); rintro e w' ⟨rfl, rfl⟩))
              go_ret2
              rw [HR.out]
              exact ⟨rfl, HB.out⟩
        · have HR := Lib.hid (ST.out (by rw [G3.out hdig hlet]; omega))
          have hcase : ((x == 95) = true ∨ (x == 95) = false) := by cases (x == 95) <;> simp
          by_cases hl : 97 ≤ lx
          · have hl2 : ¬ lx ≤ 122 := fun h => hlet ⟨hl, h⟩
            by_cases h48 : 48 ≤ x
            · have h57 : ¬ x ≤ 57 := fun h => hdig ⟨h48, h⟩
              rcases hcase with n95 | n95
              all_goals
                go_wp2_with (first | (go_at_call 52; (with_reducible refine (LA.out _).mono ?_); rintro e w' ⟨rfl, rfl⟩))
                go_ret2
                rw [HR.out]
                exact ⟨rfl, HB.out⟩
            · have n95 : (x == 95) = false := by simp; omega
              go_wp2_with (first | (go_at_call 52; (with_reducible refine (LA.out _).mono ?_); rintro e w' ⟨rfl, rfl⟩))
              go_ret2
              rw [HR.out]
              exact ⟨rfl, HB.out⟩
          · by_cases h48 : 48 ≤ x
            · have h57 : ¬ x ≤ 57 := fun h => hdig ⟨h48, h⟩
              rcases hcase with n95 | n95
              all_goals
                go_wp2_with (first | (go_at_call 52; (with_reducible refine (LA.out _).mono ?_); rintro e w' ⟨rfl, rfl⟩))
                go_ret2
                rw [HR.out]
                exact ⟨rfl, HB.out⟩
            · have n95 : (x == 95) = false := by simp; omega
              go_wp2_with (first | (go_at_call 52; (with_reducible refine (LA.out _).mono ?_); rintro e w' ⟨rfl, rfl⟩))
              go_ret2
              rw [HR.out]
              exact ⟨rfl, HB.out⟩
    · obtain ⟨n, rfl, rfl⟩ := hp.fin (by rw [← HL.out]; omega)
      clear hp HQ
      go_wp2_with fail
      go_ret2
      exact ⟨rfl, HB.out⟩
end Go.Proofs.YtdoahlhkbhpgpaaDoor.adC

namespace Go.Proofs.YtdoahlhkbhpgpaaDoor.adC
open Go.ChangeShapes Go.WideShapes Go.ChangeAt Go.RowKit
open Go.Proofs.YtdoahlhkbhpgpaaDoor.memC Go.Proofs.YtdoahlhkbhpgpaaDoor.genC Go.Proofs.YtdoahlhkbhpgpaaDoor.butC Go.Proofs.YtdoahlhkbhpgpaaDoor.freeC Go.Proofs.YtdoahlhkbhpgpaaDoor.txC
set_option linter.unusedVariables false
theorem es_cell {w : World} (h : Gb w) : ∃ t p, w.cell? ⟨2, 0, none⟩ = some (.iface t p) := by
  obtain ⟨t, p, hv⟩ := h.es
  refine ⟨t, p, ?_⟩
  have := World.var?_cell (show Tryd.prog.globalNamed "strconv.ErrSyntax" = some 2 by kernel_rfl) hv 0
  simpa using this
def ErrRet (w : World) (e : Ending) (w' : World) : Prop := ∃ (t : TypeId) (p : Addr), e = .returned (.iface t (.pointer (some p))) ∧ Below w.heap.size w w'
theorem toErr_any (F S : ByteArray) (b z : Int) (w : World) (hg : Gb w) (hs : S.size ≤ 100000) : Calls Tryd.prog 41 #[.string F, .string S, .int .i64 b, .int .i64 z, eSyn] w (ErrRet w) := by
  obtain ⟨t, p, hv⟩ := es_cell hg
  exact (AnyPu.strconv_toError_syntax { Tryd.laysPu14 with } F S b z _ w (by omega) hv (.inr ⟨t, p, rfl⟩)).mono fun e w' ⟨N, he, _, _, hb⟩ => ⟨_, _, he, hb⟩
set_option maxRecDepth 100000 in
set_option maxHeartbeats 1000000 in
theorem pu16_ok (xs : List Int) (w : World) (hy : ∀ x ∈ xs, Byte x) (h : 0 ≤ gofL xs) :
    Calls Tryd.prog 29 #[.string (strOfNums xs), .int .i64 16, .int .i64 16] w (PuOk w (gofL xs)) := by
  have hl : ¬ (xs.length < 1 ∨ 4 < xs.length) := fun h1 => by rw [gofL, if_pos h1] at h; omega
  have hne : xs ≠ [] := fun e => hl (.inl (by rw [e]; decide))
  have h1 := pu16_gof xs 0 hy
  have IN := Lib.hid (in16_any xs w hy hne (by omega))
  rw [gofL, if_neg hl] at h ⊢
  cases hp : pu16 xs 0 with
  | none => rw [hp] at h1; simp only at h1; omega
  | some m =>
    rw [hp] at h1 IN
    simp only at h1
    rw [h1]
    generalize strOfNums xs = S0 at *
    clear hl hne h1 hp h hy
    go_enter Tryd.func29, Tryd.ntmps29
    go_wp2_with (first | (go_at_call 40; (with_reducible refine IN.out.mono ?_); rintro e w1 ⟨rfl, B1⟩
                          have B1 := Lib.hid B1))
    go_ret2
    exact ⟨rfl, B1.out⟩
set_option maxRecDepth 100000 in
set_option maxHeartbeats 1000000 in
theorem pu16_no (xs : List Int) (w : World) (hg : Gb w) (hy : ∀ x ∈ xs, Byte x) (h4 : xs.length ≤ 4) (h : ¬ 0 ≤ gofL xs) :
    Calls Tryd.prog 29 #[.string (strOfNums xs), .int .i64 16, .int .i64 16] w (PuNo w) := by
  have hs := strOfNums_size xs
  have IN : Hid (Calls Tryd.prog 40 #[.string (strOfNums xs), .int .i64 16, .int .i64 16] w (InRet w none)) := by
    by_cases hne : xs = []
    · subst hne
      refine Lib.hid ?_
      rw [show strOfNums [] = ({ data := #[] } : ByteArray) from rfl]
      go_enter Tryd.func40, Tryd.ntmps40
      go_wp2_with fail
      go_ret2
      exact ⟨rfl, Below.refl _ _⟩
    · have h1 := pu16_gof xs 0 hy
      have hl : ¬ (xs.length < 1 ∨ 4 < xs.length) := fun h1 => by
        have : xs.length ≠ 0 := fun e => hne (List.eq_nil_of_length_eq_zero e)
        omega
      rw [gofL, if_neg hl] at h
      have IN := in16_any xs w hy hne (by omega)
      cases hp : pu16 xs 0 with
      | none => rw [hp] at IN; exact Lib.hid IN
      | some m => rw [hp] at h1; simp only at h1; omega
  have HG := Lib.hid (fun w' (hb : Below w.heap.size w w') => toErr_any ⟨#[80, 97, 114, 115, 101, 85, 105, 110, 116]⟩ (strOfNums xs) 16 16 w' (hg.below hb) (by omega))
  generalize strOfNums xs = S0 at *
  clear h4 h hy hs hg
  go_enter Tryd.func29, Tryd.ntmps29
  go_wp2_with (first
    | (go_at_call 40; (with_reducible refine IN.out.mono ?_); rintro e w1 ⟨rfl, B1⟩
       have TE := Lib.hid (HG.out _ B1)
       have B1 := Lib.hid B1)
    | (go_at_call 41; (with_reducible refine TE.out.mono ?_); rintro e w2 ⟨t, p, rfl, B2⟩
       have B2 := Lib.hid (B1.out.trans (B2.mono B1.out.size))))
  go_ret2
  exact ⟨0, t, p, rfl, by omega, by omega, B2.out⟩
set_option maxRecDepth 100000 in
set_option maxHeartbeats 1000000 in
theorem pgroup_ok (xs : List Int) (w : World) (hy : ∀ x ∈ xs, Byte x) (h : 0 ≤ gofL xs) :
    Calls Tryd.prog 31 #[.string (strOfNums xs)] w (Ret w (.tuple #[.int .u16 (gofL xs), .bool true])) := by
  have hl : ¬ (xs.length < 1 ∨ 4 < xs.length) := fun h1 => by rw [gofL, if_pos h1] at h; omega
  have PU := Lib.hid (pu16_ok xs w hy h)
  have hb := gofL_le xs
  obtain ⟨L, hL⟩ : ∃ L, L = xs.length := ⟨_, rfl⟩
  have hsz : (strOfNums xs).size = L := by rw [strOfNums_size, hL]
  have hz : ¬ (4 : Int) < (L : Int) := by omega
  have hL4 : L ≤ 4 := by omega
  generalize gofL xs = n at *
  have hw : IntKind.u16.wrap n = n := by rw [IntKind.wrap_u16]; omega
  generalize strOfNums xs = S0 at *
  clear hL hl hy
  go_enter Tryd.func31, Tryd.ntmps31
  go_upto_region 4 with (first
    | (go_at_call 29; (with_reducible refine PU.out.mono ?_); rintro e w1 ⟨rfl, B1⟩
       have B1 := Lib.hid B1))
  go_quiet (fail)
  go_wp2_with fail
  go_ret2
  exact ⟨rfl, bel_drewN B1.out _⟩
set_option maxRecDepth 100000 in
set_option maxHeartbeats 1000000 in
theorem pgroup_no (xs : List Int) (w : World) (hg : Gb w) (hy : ∀ x ∈ xs, Byte x) (hn : xs.length ≤ 10000) (h : ¬ 0 ≤ gofL xs) :
    Calls Tryd.prog 31 #[.string (strOfNums xs)] w (NoRet .u16 w) := by
  obtain ⟨L, hL⟩ : ∃ L, L = xs.length := ⟨_, rfl⟩
  have hsz : (strOfNums xs).size = L := by rw [strOfNums_size, hL]
  have hL1 : L ≤ 10000 := by omega
  by_cases h4 : 4 < L
  · have hz : (4 : Int) < (L : Int) := by omega
    generalize strOfNums xs = S0 at *
    clear hL hy h hg
    go_enter Tryd.func31, Tryd.ntmps31
    go_wp2_with fail
    go_ret2
    exact ⟨0, rfl, Below.refl _ _⟩
  · have hz : ¬ (4 : Int) < (L : Int) := by omega
    have PU := Lib.hid (pu16_no xs w hg hy (by omega) h)
    generalize strOfNums xs = S0 at *
    clear hL hy h hg
    go_enter Tryd.func31, Tryd.ntmps31
    go_upto_region 4 with (first
      | (go_at_call 29; (with_reducible refine PU.out.mono ?_); rintro e w1 ⟨v, t, p, rfl, v0, v1, B1⟩
         have B1 := Lib.hid B1))
    go_quiet (fail)
    go_wp2_with fail
    go_ret2
    exact ⟨_, rfl, bel_drewN B1.out _⟩
end Go.Proofs.YtdoahlhkbhpgpaaDoor.adC

namespace Go.Proofs.YtdoahlhkbhpgpaaDoor.adC
open Go.ChangeShapes Go.WideShapes Go.ChangeAt Go.RowKit
open Go.Proofs.YtdoahlhkbhpgpaaDoor.memC Go.Proofs.YtdoahlhkbhpgpaaDoor.genC Go.Proofs.YtdoahlhkbhpgpaaDoor.butC Go.Proofs.YtdoahlhkbhpgpaaDoor.freeC Go.Proofs.YtdoahlhkbhpgpaaDoor.txC
set_option linter.unusedVariables false
def cgrL (xs : List Int) : Option (List Int) := if xs = [] then some [] else gacc (spn 58 8 xs) []
set_option maxRecDepth 100000 in
set_option maxHeartbeats 2000000 in
theorem pgroups_any (xs : List Int) (w : World) (hg : Gb w) (hy : ∀ x ∈ xs, Byte x) (hn : xs.length ≤ 9000) : Calls Tryd.prog 23 #[.string (strOfNums xs)] w (GrsRet w (cgrL xs)) := by
  by_cases hs : xs = []
  · have HG : cgrL xs = some [] := by unfold cgrL; rw [if_pos hs]
    have hn0 : (strOfNums xs).toList = [] := (str_emp xs).2 hs
    have hn1 : (strOfNums xs).toList.isEmpty = true := by rw [hn0]; rfl
    rw [HG]
    generalize strOfNums xs = S0 at *
    clear hs HG hy hg
    go_enter Tryd.func23, Tryd.ntmps23
    go_wp2_with fail
    go_ret2
    exact ⟨none, 0, 0, rfl, rfl, Nat.le_refl _, Nat.zero_le _, Own.nil _ _, Below.refl _ _⟩
  · obtain ⟨R, hR⟩ : ∃ R, R = cgrL xs := ⟨_, rfl⟩
    have hn0 : ¬ (strOfNums xs).toList = [] := by rw [str_emp]; exact hs
    have hn1 : (strOfNums xs).toList.isEmpty = false := by simpa using hn0
    have SP := Lib.hid (splitN_any 58 9 8 rfl (by omega) 9 58 rfl rfl xs w hg hy (by omega))
    have LS := Lib.hid (spn_len 58 8 xs)
    have LB := Lib.hid (show ∀ l ∈ spn 58 8 xs, ∀ x ∈ l, Byte x from fun l hl x hx => hy x ((spn_sub 58 8 xs l hl).2 x hx))
    have PL := Lib.hid (show ∀ l ∈ spn 58 8 xs, l.length ≤ 10000 from fun l hl => by have := (spn_sub 58 8 xs l hl).1; omega)
    have HRR := Lib.hid (show gacc ((spn 58 8 xs).drop 0) [] = R by rw [hR]; unfold cgrL; rw [if_neg hs]; rfl)
    rw [← hR]
    generalize spn 58 8 xs = ls at *
    generalize strOfNums xs = S0 at *
    obtain ⟨i0, hi0, hz0, hz1, hz2⟩ := info_parts word_inf
    have T1 := Lib.hid hi0; have T2 := Lib.hid hz0; have T3 := Lib.hid hz1; have T4 := Lib.hid hz2
    have HG := Lib.hid hg
    clear hs hR hy hi0 hz0 hz1 hz2 hg
    go_enter Tryd.func23, Tryd.ntmps23
    go_upto_region 4 with (first
      | (go_at_call 20; (with_reducible refine SP.out.mono ?_); rintro e w1 ⟨A1, L, c1, rfl, hL, O1, B1⟩))
    have hLp : 0 < L := by have := LS.out; omega
    have hL1 : L ≤ 9 := by have := LS.out; omega
    obtain ⟨g, rfl, hg1, hg2, hcell, hfr⟩ := O1.row hL hLp
    have HB1 := Lib.hid B1
    have HG1 := Lib.hid (HG.out.below B1)
    have CL := Lib.hid (fun (j : Nat) (hj : j < L) (w' : World) (B : Below w1.heap.size w1 w') => (show w'.cell? ⟨g, j, none⟩ = some (.string (strOfNums (ls.getD j []))) from (B.cell (p := ⟨g, j, none⟩) hg2).trans (hcell j hj)))
    have DR := Lib.hid (fun (j : Nat) (hj : j < L) => (show ls.drop j = ls.getD j [] :: ls.drop (j + 1) by
      rw [List.getD_eq_getElem?_getD, List.getElem?_eq_getElem (by omega)]
      exact List.drop_eq_getElem_cons (by omega)))
    have DE := Lib.hid (show ∀ j, L ≤ j → ls.drop j = [] from fun j hj => List.drop_eq_nil_of_le (by omega))
    have MB := Lib.hid (fun (j : Nat) (hj : j < L) => (show ls.getD j [] ∈ ls by
      rw [List.getD_eq_getElem?_getD, List.getElem?_eq_getElem (by omega)]
      exact List.getElem_mem _))
    clear hL O1 B1 hcell hfr hn0 hn1
    have b2 : i0.bytes * L ≤ 281474976710656 := by rw [T4.out]; omega
    go_wp2_with (at_make; (refine wpList_make_own _ rfl (.const (.int .i64 0)) (.tmp 15) _ rfl w1.heap.size 46 i0 _ 1 Tryd.underlying41 T1.out T2.out T3.out .i64 .i64 _ L rfl rfl (by omega) b2 (by simp only [maxLen]; omega) (Nat.le_refl _) ?_)
                 intro w2 hown1 hg3
                 have HO2 : Hid (Own .u16 46 w2 w1.heap.size (.slice (some ⟨w1.heap.size, 0, none⟩) 0 L) []) := Lib.hid hown1
                 have HB2 : Hid (Below w1.heap.size w1 w2) := Lib.hid (grown_below hg3 (Nat.le_refl _) (by nofun))
                 clear hown1 hg3)
    go_loopw [5, 19] (fun v iv wr => ∃ (i : Nat) (acc : List Int) (A : Option Addr) (c : Nat), i ≤ L ∧ iv = .int .i64 i ∧ v = .slice A i c ∧ acc.length = i ∧ i ≤ c ∧ c ≤ maxLen ∧ Own .u16 46 wr w1.heap.size (.slice A i c) acc ∧ gacc (ls.drop i) acc = R ∧ Below w1.heap.size w1 wr) (fun _ iv _ => L - (intOf iv).toNat)
    case atStart => exact ⟨0, [], _, L, by omega, rfl, rfl, rfl, Nat.zero_le _, by simp only [maxLen]; omega, HO2.out, HRR.out, HB2.out⟩
    case round =>
      obtain ⟨i, acc, A, c, hi, rfl, rfl, hacc, hic, hcm, O, hga, Bw⟩ := hrel
      have HB := Lib.hid Bw
      have HO := Lib.hid O
      have HA := Lib.hid hacc
      have HGA := Lib.hid hga
      have HIC := Lib.hid hic
      have HCM := Lib.hid hcm
      clear O hga hacc hic hcm
      by_cases hlt : i < L
      · have hz : (i : Int) < (L : Int) := by omega
        have cx := CL.out i hlt wr Bw
        have hb := gofL_le (ls.getD i [])
        have HGN := Lib.hid (show (if gofL (ls.getD i []) < 0 then none else gacc (ls.drop (i + 1)) (acc ++ [gofL (ls.getD i [])])) = R by
          have h := HGA.out
          rw [DR.out i hlt, gacc] at h; exact h)
        by_cases hx : gofL (ls.getD i []) < 0
        · have HN := Lib.hid (show R = none by have h := HGN.out; rw [if_pos hx] at h; exact h.symm)
          have GO := Lib.hid (pgroup_no (ls.getD i []) wr (HG1.out.below Bw) (LB.out _ (MB.out i hlt)) (PL.out _ (MB.out i hlt)) (by omega))
          generalize gofL (ls.getD i []) = x at *
          generalize strOfNums (ls.getD i []) = S1 at *
          clear Bw hx hb
          go_wp2_with (first
            | (go_at_call 31; (with_reducible refine GO.out.mono ?_); rintro e w3 ⟨v, rfl, B3⟩
               have B3 := Lib.hid B3))
          go_ret2
          rw [HN.out]
          exact ⟨rfl, HB1.out.trans ((HB.out.trans (B3.out.mono HB.out.size)).mono HB1.out.size)⟩
        · have HN := Lib.hid (show gacc (ls.drop (i + 1)) (acc ++ [gofL (ls.getD i [])]) = R by have h := HGN.out; rwa [if_neg hx] at h)
          have GO := Lib.hid (pgroup_ok (ls.getD i []) wr (LB.out _ (MB.out i hlt)) (by omega))
          generalize gofL (ls.getD i []) = x at *
          generalize strOfNums (ls.getD i []) = S1 at *
          clear Bw hx
          go_wp2_with (first
            | (go_at_call 31; (with_reducible refine GO.out.mono ?_); rintro e w3 ⟨rfl, B3⟩
               have BB3 := Lib.hid (HB.out.trans (B3.mono HB.out.size))
               have O3 := Lib.hid (HO.out.below B3))
            | (at_builtin; (refine wpList_app1T w3 rfl (.tmp 30) (.tmp 32) _ rfl 46 i0 _ 2 Tryd.underlying41 T1.out T2.out T3.out T4.out rfl w1.heap.size (.slice A i c) acc (by rfl) O3.out x (by rfl) (by rw [HA.out]; simp only [maxLen]; omega) (by rw [HA.out]; omega) BB3.out.size (i + 1) (by rw [HA.out]) ?_)
               intro A4 c4 w4 g4 g5 O4 B4
               have HO4 := Lib.hid O4
               have HB4 := Lib.hid (BB3.out.trans B4)
               have HG4 := Lib.hid (And.intro g4 g5)
               clear O4 B4 g4 g5))
          go_roundw
          case rel => exact ⟨i + 1, acc ++ [x], A4, c4, by omega, by go_num, rfl, by rw [List.length_append, HA.out]; rfl, HG4.out.1, HG4.out.2, HO4.out, HN.out, HB4.out⟩
          case measure => simp [intOf]; omega
      · have e : i = L := by omega
        subst e
        have HN := Lib.hid (show R = some acc by have h := HGA.out; rw [DE.out i (Nat.le_refl _)] at h; exact h.symm)
        clear Bw
        go_wp2_with fail
        go_ret2
        rw [HN.out]
        exact ⟨A, i, c, rfl, HA.out, HIC.out, HCM.out, HO.out.less HB1.out.size, HB1.out.trans (HB.out.mono HB1.out.size)⟩
end Go.Proofs.YtdoahlhkbhpgpaaDoor.adC

namespace Go.Proofs.YtdoahlhkbhpgpaaDoor.adC
open Go.ChangeShapes Go.WideShapes Go.ChangeAt Go.RowKit
open Go.Proofs.YtdoahlhkbhpgpaaDoor.memC Go.Proofs.YtdoahlhkbhpgpaaDoor.genC Go.Proofs.YtdoahlhkbhpgpaaDoor.butC Go.Proofs.YtdoahlhkbhpgpaaDoor.freeC Go.Proofs.YtdoahlhkbhpgpaaDoor.txC
set_option linter.unusedVariables false
/-- the bytes of four parts -/
def fourF : List (List Int) → Nat → List Int → Option (List Int)
  | [], _, b => some b
  | l :: r, i, b => if bofL l < 0 then none else fourF r (i + 1) (b.set i (bofL l))
def fourG (ls : List (List Int)) : Option (List Int) := if ls.length = 4 then fourF ls 0 (zs 16) else none
/-- the state of a call that fills a new address: where its result will lie, and what is filled -/
structure FSt (w : World) (g : Nat) (s : Bool) (b : List Int) (wr : World) : Prop where
  bel : Below w.heap.size w wr
  res : wr.heap[w.heap.size]? = some (.cells zAdr 24 (0, 0))
  row : wr.heap[g]? = some (.cells (adrV s b) 24 (0, 0))
  gt : w.heap.size < g
  len : b.length = 16
section
variable {w wr w' : World} {g : Nat} {s : Bool} {b : List Int}
theorem FSt.below (h : FSt w g s b wr) (hb : Below wr.heap.size wr w') : FSt w g s b w' :=
  ⟨h.bel.trans (hb.mono h.bel.size), by rw [hb.block _ (lt_of_row h.res)]; exact h.res, by rw [hb.block _ (lt_of_row h.row)]; exact h.row, h.gt, h.len⟩
theorem FSt.set (h : FSt w g s b wr) (i : Nat) (x : Int) : FSt w g s (b.set i x) (wr.setCell ⟨g, 1 + i, none⟩ (.int .u8 x)) := by
  have hg := h.gt
  refine ⟨h.bel.setCell (p := ⟨g, 1 + i, none⟩) (by show w.heap.size ≤ g; omega) _, ?_, ?_, hg, by rw [List.length_set]; exact h.len⟩
  · rw [heap_setCell_other wr ⟨g, 1 + i, none⟩ _ _ (fun e => by simp at e; omega)]; exact h.res
  · rw [heap_setCell_same wr g (1 + i) _ 24 _ h.row, adrV_set]
theorem FSt.cell (h : FSt w g s b wr) {i : Nat} (hi : i < 16) : wr.cell? ⟨g, 1 + i, none⟩ = some (.int .u8 (b.getD i 0)) := by
  rw [cell_of_row wr g (1 + i) _ _ (0, 0) h.row]; exact adrV_at (by rw [h.len]; exact hi)
theorem FSt.frozen (h : FSt w g s b wr) (i : Nat) : wr.frozen? ⟨g, i, none⟩ = false := frozen_of_row wr g i _ 24 h.row
end
/-- an address and yes, or the zero one and no -/
def PfRet (w : World) (o : Option (Bool × List Int)) (e : Ending) (w' : World) : Prop :=
  (match o with
  | some (s, b) => e = .returned (.tuple #[.agg (adrV s b), .bool true])
  | none => e = .returned (.tuple #[.agg zAdr, .bool false])) ∧ Below w.heap.size w w'
theorem adr_info (s : Bool) {b : List Int} (h : b.length = 16) : (Tryd.prog.info? 24).map (·.size) = some (adrV s b).size := by rw [addr_info, adrV_size h]
theorem z_info : (Tryd.prog.info? 24).map (·.size) = some zAdr.size := adr_info false (zs_len 16)
theorem z_one : zAdr.all (·.oneCell') = true := adrV_one _ _
theorem z_size (s : Bool) {b : List Int} (h : b.length = 16) : zAdr.size = (adrV s b).size := by rw [adrV_size h]; exact adrV_size (zs_len 16)
set_option maxRecDepth 100000 in
set_option maxHeartbeats 2000000 in
theorem pfour_any (xs : List Int) (w : World) (hg : Gb w) (hy : ∀ x ∈ xs, Byte x) (hn : xs.length ≤ 9000) :
    Calls Tryd.prog 14 #[.string (strOfNums xs)] w (PfRet w ((fourG (spn 46 4 xs)).map fun b => (false, b))) := by
  have hzv := zeroAdr
  have Z0 := Lib.hid z_info; have Z1 := Lib.hid z_one; have Z2 := Lib.hid built_zero
  have hB0 : Below w.heap.size w (w.alloc (.cells zAdr 24)) := alloc_below _ _
  have hr0 : (w.alloc (.cells zAdr 24)).heap[w.heap.size]? = some (.cells zAdr 24 (0, 0)) := heap_alloc_new w _
  have SP := Lib.hid (splitN_any 46 5 4 rfl (by omega) 5 46 rfl rfl xs (w.alloc (.cells zAdr 24)) (hg.below hB0) hy (by omega))
  have HF' := Lib.hid (fun (s : Bool) (b : List Int) (h : b.length = 16) => And.intro (adr_info s h) (And.intro (z_size s h) (adrV_one s b)))
  have LB := Lib.hid (show ∀ l ∈ spn 46 4 xs, ∀ x ∈ l, Byte x from fun l hl x hx => hy x ((spn_sub 46 4 xs l hl).2 x hx))
  have PL := Lib.hid (show ∀ l ∈ spn 46 4 xs, l.length ≤ 10000 from fun l hl => by have := (spn_sub 46 4 xs l hl).1; omega)
  have LS := Lib.hid (spn_len 46 4 xs)
  have HG := Lib.hid hg
  have HB0 := Lib.hid hB0; have HR0 := Lib.hid hr0
  have ZG := Lib.hid (show adrV false (zs 16) = zAdr from rfl)
  generalize spn 46 4 xs = ls at *
  generalize strOfNums xs = S0 at *
  obtain ⟨R, hR⟩ : ∃ R, R = fourG ls := ⟨_, rfl⟩
  have HRR := Lib.hid hR
  rw [← hR]
  generalize hZ : zAdr = Z at *
  have HZ := Lib.hid hZ
  clear hy hg hB0 hr0 hR hZ
  go_enter Tryd.func14, Tryd.ntmps14
  go_upto_region 2 with (first
    | (go_at_call 20; (with_reducible refine SP.out.mono ?_); rintro e w1 ⟨A1, L, c1, rfl, hL, O1, B1⟩))
  have hLp : 0 < L := by have := LS.out; omega
  have hL1 : L ≤ 5 := by have := LS.out; omega
  obtain ⟨g1, rfl, hg1, hg2, hcell, hfr⟩ := O1.row hL hLp
  have HB1 := Lib.hid (HB0.out.trans (B1.mono HB0.out.size))
  have HG1 := Lib.hid ((HG.out.below HB0.out).below B1)
  have HR1 := Lib.hid (show w1.heap[w.heap.size]? = some (.cells Z 24 (0, 0)) by rw [B1.block _ (lt_of_row HR0.out)]; exact HR0.out)
  have CL := Lib.hid (fun (j : Nat) (hj : j < L) (w' : World) (B : Below w1.heap.size w1 w') => (show w'.cell? ⟨g1, j, none⟩ = some (.string (strOfNums (ls.getD j []))) from (B.cell (p := ⟨g1, j, none⟩) hg2).trans (hcell j hj)))
  have HL := Lib.hid hL
  clear hL O1 B1 hcell hfr SP HB0 HR0
  by_cases h4 : L = 4
  · subst h4
    have DR := Lib.hid (fun (j : Nat) (hj : j < 4) => (show ls.drop j = ls.getD j [] :: ls.drop (j + 1) by
      rw [List.getD_eq_getElem?_getD, List.getElem?_eq_getElem (by rw [HL.out]; exact hj)]
      exact List.drop_eq_getElem_cons (by rw [HL.out]; exact hj)))
    have DE := Lib.hid (show ∀ j, 4 ≤ j → ls.drop j = [] from fun j hj => List.drop_eq_nil_of_le (by rw [HL.out]; exact hj))
    have MB := Lib.hid (fun (j : Nat) (hj : j < 4) => (show ls.getD j [] ∈ ls by
      rw [List.getD_eq_getElem?_getD, List.getElem?_eq_getElem (by rw [HL.out]; exact hj)]
      exact List.getElem_mem _))
    have HR2 := Lib.hid (show fourF (ls.drop 0) 0 (zs 16) = R by rw [HRR.out]; unfold fourG; rw [if_pos HL.out]; rfl)
    have HF0 : Hid (FSt w w1.heap.size false (zs 16) (w1.alloc (.cells Z 24))) := Lib.hid
      ⟨HB1.out.trans ((alloc_below _ _).mono HB1.out.size), by rw [(alloc_below _ _).block _ (lt_of_row HR1.out), HZ.out]; exact HR1.out, by rw [ZG.out]; exact heap_alloc_new w1 _, lt_of_row HR1.out, zs_len 16⟩
    have HB2 := Lib.hid (show Below w1.heap.size w1 (w1.alloc (.cells Z 24)) from alloc_below _ _)
    go_upto_region 5 with fail
    obtain ⟨g, hgd⟩ : ∃ g, g = w1.heap.size := ⟨_, rfl⟩
    rw [← hgd] at HF0 ⊢
    have HGD := Lib.hid hgd
    generalize w1.alloc (.cells Z 24) = w2 at *
    clear hgd hLp hL1
    go_wp2_with fail
    go_loopw [18] (fun iv wr => ∃ (i : Nat) (b : List Int), i ≤ 4 ∧ iv = .int .i64 i ∧ FSt w g false b wr ∧ fourF (ls.drop i) i b = R ∧ Below w1.heap.size w1 wr) (fun iv _ => 4 - (intOf iv).toNat)
    case atStart => exact ⟨0, zs 16, by omega, rfl, HF0.out, HR2.out, HB2.out⟩
    case round =>
      obtain ⟨i, b, hi, rfl, F, hf, Bw⟩ := hrel
      have HF := Lib.hid F
      have HV := Lib.hid hf
      have HB := Lib.hid Bw
      clear F hf
      by_cases hlt : i < 4
      · have cx := CL.out i hlt wr Bw
        have hz : (i : Int) < 4 := by omega
        have hiz : (i : Int) < 16 := by omega
        have hin : i < 16 := by omega
        have HGN := Lib.hid (show (if bofL (ls.getD i []) < 0 then none else fourF (ls.drop (i + 1)) (i + 1) (b.set i (bofL (ls.getD i [])))) = R by
          have h := HV.out
          rw [DR.out i hlt, fourF] at h; exact h)
        by_cases hx : bofL (ls.getD i []) < 0
        · have HN := Lib.hid (show R = none by have h := HGN.out; rw [if_pos hx] at h; exact h.symm)
          have GO := Lib.hid (number_no (ls.getD i []) wr (HG1.out.below Bw) (LB.out _ (MB.out i hlt)) (PL.out _ (MB.out i hlt)) (by omega))
          generalize bofL (ls.getD i []) = x at *
          generalize strOfNums (ls.getD i []) = S1 at *
          clear Bw hx
          go_upto_region 10 with (first
            | (go_at_call 21; (with_reducible refine GO.out.mono ?_); rintro e w3 ⟨v, rfl, B3⟩
               have B3 := Lib.hid B3))
          have HF3 := Lib.hid (HF.out.below B3.out)
          have HS3 := Lib.hid (show w3.heap[w.heap.size]? = some (.cells Z 24 (0, 0)) by rw [← HZ.out]; exact HF3.out.res)
          go_wp2_with (first
            | (refine wpList_zero rfl 24 rfl Z Z2.out ?_)
            | (refine wpList_store_row rfl 24 (.tmp 2) (.tmp 30) rfl w.heap.size Z rfl rfl _ _ HS3.out Z0.out rfl Z1.out ?_))
          refine bodyPost_ret (v := .tuple #[.agg Z, .bool false]) (results_cell_tmp Tryd.results14 _ _ w.heap.size _ _ _ _ _ (by rfl) (setRow_heap _ _ _ _ _ _ HS3.out) Tryd.underlying24 rfl Z0.out (by rfl)) rfl ?_
          rw [HN.out]
          exact ⟨by rw [← HZ.out]; rfl, HF3.out.bel.trans ⟨rfl, rfl, rfl, by simp, fun z hz => setRow_other _ _ _ _ (by omega)⟩⟩
        · have HN := Lib.hid (show fourF (ls.drop (i + 1)) (i + 1) (b.set i (bofL (ls.getD i []))) = R by have h := HGN.out; rwa [if_neg hx] at h)
          have GO := Lib.hid (number_ok (ls.getD i []) wr (LB.out _ (MB.out i hlt)) (by omega))
          generalize bofL (ls.getD i []) = x at *
          generalize strOfNums (ls.getD i []) = S1 at *
          clear Bw hx
          go_upto_region 11 with (first
            | (go_at_call 21; (with_reducible refine GO.out.mono ?_); rintro e w3 ⟨rfl, B3⟩
               have B3 := Lib.hid B3))
          have F3 := HF.out.below B3.out
          have hc := F3.cell hin
          have hfz := F3.frozen (1 + i)
          have HF4 := Lib.hid (F3.set i x)
          have HB4 := Lib.hid ((HB.out.trans (B3.out.mono HB.out.size)).setCell (p := ⟨g, 1 + i, none⟩) (by show w1.heap.size ≤ g; rw [HGD.out]; exact Nat.le_refl _) (.int .u8 x))
          clear F3
          go_upto_region 12 with fail
          clear hc hfz
          generalize w3.setCell ⟨g, 1 + i, none⟩ (.int .u8 x) = w4 at *
          go_wp2_with fail
          go_roundw
          case rel => exact ⟨i + 1, b.set i x, by omega, by go_num, HF4.out, HN.out, HB4.out⟩
          case measure => simp [intOf]; omega
      · have e : i = 4 := by omega
        subst e
        have HN := Lib.hid (show R = some b by have h := HV.out; rw [DE.out 4 (Nat.le_refl _)] at h; exact h.symm)
        have HFb := Lib.hid (HF.out.len)
        have HS3 := Lib.hid (show wr.heap[w.heap.size]? = some (.cells Z 24 (0, 0)) by rw [← HZ.out]; exact HF.out.res)
        clear Bw
        go_wp2_with (first
          | (refine wpList_load_row rfl 24 (.tmp 5) rfl g rfl _ _ _ _ HF.out.row Tryd.underlying24 rfl (HF'.out false b HFb.out).1 ?_)
          | (refine wpList_store_row rfl 24 (.tmp 2) (.tmp 36) rfl w.heap.size (adrV false b) rfl rfl _ _ HS3.out (HF'.out false b HFb.out).1 (HF'.out false b HFb.out).2.1 (HF'.out false b HFb.out).2.2 ?_))
        refine bodyPost_ret (v := .tuple #[.agg (adrV false b), .bool true]) (results_cell_tmp Tryd.results14 _ _ w.heap.size _ _ _ _ _ (by rfl) (setRow_heap _ _ _ _ _ _ HS3.out) Tryd.underlying24 rfl (HF'.out false b HFb.out).1 (by rfl)) rfl ?_
        rw [HN.out]
        exact ⟨rfl, HF.out.bel.trans ⟨rfl, rfl, rfl, by simp, fun z hz => setRow_other _ _ _ _ (by omega)⟩⟩
  · have HN := Lib.hid (show R = none by rw [HRR.out]; unfold fourG; rw [if_neg (by rw [HL.out]; exact h4)])
    have hz : ((L : Int) != 4) = true := by simp; omega
    have hz2 : ((L : Int) == 4) = false := by simp; omega
    go_wp2_with (first
      | (refine wpList_zero rfl 24 rfl Z Z2.out ?_)
      | (refine wpList_store_row rfl 24 (.tmp 2) (.tmp 15) rfl w.heap.size Z rfl rfl _ _ HR1.out Z0.out rfl Z1.out ?_))
    refine bodyPost_ret (v := .tuple #[.agg Z, .bool false]) (results_cell_tmp Tryd.results14 _ _ w.heap.size _ _ _ _ _ (by rfl) (setRow_heap _ _ _ _ _ _ HR1.out) Tryd.underlying24 rfl Z0.out (by rfl)) rfl ?_
    rw [HN.out]
    exact ⟨by rw [← HZ.out]; rfl, HB1.out.trans ⟨rfl, rfl, rfl, by simp, fun z hz => setRow_other _ _ _ _ (by omega)⟩⟩
end Go.Proofs.YtdoahlhkbhpgpaaDoor.adC
