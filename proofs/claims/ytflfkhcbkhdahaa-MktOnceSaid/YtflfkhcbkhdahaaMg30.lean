/-
  1 texts of a proof, joined.
-/
import Derived.Test.YtflfkhcbkhdahaaMg29

/-
  The walk of MktOnce.
-/
namespace Go.Proofs.Ytflfkhcbkhdahaa.mkC
open Go.ChangeShapes Go.WideShapes Go.ChangeAt Go.RowKit
open Go.Proofs.Ytflfkhcbkhdahaa.memC Go.Proofs.Ytflfkhcbkhdahaa.genC Go.Proofs.Ytflfkhcbkhdahaa.butC Go.Proofs.Ytflfkhcbkhdahaa.freeC Go.Proofs.Ytflfkhcbkhdahaa.adC Go.Proofs.Ytflfkhcbkhdahaa.rtC
set_option linter.unusedVariables false
theorem drop_same {r : Rg} {n : Int} (h : hasN r n = false) : dropR r n = r := by
  unfold dropR
  rw [dropL_no fun x hx => ?_]
  unfold hasN at h
  have := List.any_eq_false.1 h x hx
  simpa using this
theorem once_at {es : List Ke} (h : (es.map Ke.val).Pairwise (fun x y => x.1.si ≠ y.1.si ∧ x.1.ri ≠ y.1.ri)) {j : Nat} {e : Ke} (he : es[j]? = some e) : ∀ z ∈ es.take j, z.k.si ≠ e.k.si ∧ z.k.ri ≠ e.k.ri := fun z hz => by
  have hs : es = es.take j ++ e :: es.drop (j + 1) := by
    obtain ⟨hj, he⟩ := List.getElem?_eq_some_iff.1 he
    rw [← he, List.getElem_cons_drop, List.take_append_drop]
  rw [hs, List.map_append] at h
  have h2 := (List.pairwise_append.1 h).2.2 z.val (List.mem_map.2 ⟨z, hz, rfl⟩) e.val (List.mem_map.2 ⟨e, by simp, rfl⟩)
  exact h2
/-- two maps are put into -/
structure UJ (W : World) (g15 g16 : Nat) (L1 L2 : List Int) (x1 x2 : Int) (V : Nat → Value) (m : Nat → Bool) (us : Nat → Value) (w : World) : Prop where
  fs : Fs (fun k => k = g15 ∨ k = g16) W w
  m1 : SetU w g15 (cond (m 6) (L1 ++ [x1]) L1)
  m2 : SetU w g16 (cond (m 7) (L2 ++ [x2]) L2)
  val : ∀ i, m i = true → i ≠ 6 → i ≠ 7 → us i = V i
theorem UJ.val_ {W w : World} {g15 g16 : Nat} {L1 L2 : List Int} {x1 x2 : Int} {V : Nat → Value} {m : Nat → Bool} {us : Nat → Value} (h : UJ W g15 g16 L1 L2 x1 x2 V m us w) (i : Nat) (h6 : i ≠ 6) (h7 : i ≠ 7) {v : Value} (hv : v = V i) : UJ W g15 g16 L1 L2 x1 x2 V (upd m i true) (upd us i v) w := by
  refine ⟨h.fs, ?_, ?_, fun j hj n6 n7 => ?_⟩
  · rw [upd_other m true (Ne.symm h6)]; exact h.m1
  · rw [upd_other m true (Ne.symm h7)]; exact h.m2
  · by_cases e : j = i
    · subst e; rw [upd_same]; exact hv
    · rw [upd_other us v e]
      rw [upd_other m true e] at hj
      exact h.val j hj n6 n7
def ujV (g15 g16 g18 : Nat) (x1 x2 : Int) : Nat → Value
  | 0 => .map (some g15)
  | 1 => .pointer (some ⟨g18, 21, none⟩)
  | 2 => .int .u8 x1
  | 3 => .map (some g16)
  | 4 => .pointer (some ⟨g18, 22, none⟩)
  | 5 => .int .u8 x2
  | _ => undef
def ujT : List (Option Nat) := [none, none, none, none, none, none, none, none, none, none, none, none, none, none, none, none, none, none, none, none, none, none, none, none, none, none, none, none, none, none, none, none, none, none, none, none, none, none, none, none, none, none, none, none, none, none, none, none, none, none, none, none, none, none, none, none, none, none, none, none, none, none, none, none, none, none, none, none, none, none, none, none, none, none, none, none, none, none, none, none, none, none, none, none, none, none, none, none, none, none, none, none, none, none, none, none, none, none, none, none, none, none, none, none, none, none, none, none, none, none, none, none, none, none, none, none, none, none, none, none, none, some 0, some 1, some 2, some 3, some 4, some 5, none, none, none, none, none, none, none]
set_option maxRecDepth 100000 in
set_option maxHeartbeats 16000000 in
theorem once_walk {Tb : World → (Nat → Prop) → Nat → Rg → Prop} (F : FrK Tb) (hal : Alive) (A : Option Addr) (n c : Nat) (ss : List Sk) (p : Pr) (w : World) (hk : SksK w w.heap.size A n ss) (hnc : n ≤ c) (hp : p.Ok) :
    Calls Try.prog 4 #[.slice A n c, .agg (prV p)] w (Ret w (.bool true)) := by
  obtain ⟨bx, hbx⟩ : ∃ g, g = w.heap.size := ⟨_, rfl⟩
  obtain ⟨W, hW⟩ : ∃ W, W = w.alloc (.cells (prV p) 30) := ⟨_, rfl⟩
  have HB := Lib.hid (show Below w.heap.size w W by rw [hW]; exact alloc_below _ _)
  have R := Lib.hid (show W.heap[bx]? = some (.cells (prV p) 30 (0, 0)) by rw [hW, hbx]; exact heap_alloc_new _ _)
  have IP := Lib.hid (prV_info hp)
  have AC := Lib.hid (show ∀ w' : World, Calls Try.prog 8 #[] w' (Ret w' (.bool true)) from hal)
  have NC := Lib.hid (fun (w' : World) => F.new w')
  have KTB := Lib.hid F.keep
  have LTK := Lib.hid F.lt
  have ADC := Lib.hid F.add
  have DRC := Lib.hid F.drop
  have HPO := Lib.hid hp
  have ACC := Lib.hid F.all
  have GEC := Lib.hid F.get
  have he := fun (a : Addr) (w' : World) => eql_ptr_nilM (P := Try.prog) w' a Try.underlying31
  have SA := Lib.hid (fun w' => short_any A n c w' hnc)
  have FAR := Lib.hid (fun w' (h : Below W.heap.size W w') => far_any A n c ss w' ((hk.below HB.out HB.out.size).below h h.size) hnc)
  have e100 : ss.take (min n 100) = ss.take 100 := by
    rcases Nat.le_total n 100 with q | q
    · rw [Nat.min_eq_left q, List.take_of_length_le (by rw [hk.len]; exact Nat.le_refl _), List.take_of_length_le (by rw [hk.len]; exact q)]
    · rw [Nat.min_eq_right q]
  have HP := Lib.hid ((hk.upto (Nat.min_le_left n 100)).below HB.out HB.out.size)
  rw [e100] at HP
  have HM := Lib.hid (show min n 100 ≤ 100 from Nat.min_le_right _ _)
  have FCC0 := Lib.hid (fun (w' : World) (S : Nat → Prop) (t : Nat) (rg : Rg) (h : Tb w' S t rg) (hi : Inv rg) => F.for_ w' S t rg p h hi hp)
  obtain ⟨CP, hCP⟩ : ∃ C, C = prV p := ⟨_, rfl⟩
  have FCC := Lib.hid (show ∀ (w' : World) (S : Nat → Prop) (t : Nat) (rg : Rg), Tb w' S t rg → Inv rg → Calls Try.prog 24 #[.pointer (some ⟨t, 0, none⟩), .agg CP] w' (TellR w' (forL rg p)) by rw [hCP]; exact FCC0.out)
  rw [← hCP] at R IP hW
  rw [← hCP]
  obtain ⟨ZV, hZV⟩ : ∃ Z, Z = ktV zKt none 0 0 := ⟨_, rfl⟩
  have HZP := Lib.hid (show ∀ w' : World, (zeroValue 49).run Try.prog w' = .ok (.agg ZV) w' by rw [hZV]; exact zeroPk)
  have ZSZ := Lib.hid (show ZV.size = 26 by rw [hZV]; exact zV_size)
  obtain ⟨ZS, hZS⟩ : ∃ Z, Z = zSk.cells.toArray := ⟨_, rfl⟩
  have HZS := Lib.hid (show ∀ w' : World, (zeroValue 43).run Try.prog w' = .ok (.agg ZS) w' by rw [hZS]; exact zeroStep)
  have ZSS := Lib.hid (show ZS.size = 28 by rw [hZS]; exact zSk_len)
  clear F hal hk hnc hp hCP hZV hZS FCC0
  obtain ⟨fk, hfk⟩ : ∃ f, f = farK (ss.take 100) := ⟨_, rfl⟩
  rw [← hfk] at FAR
  have HFK := Lib.hid hfk
  clear hfk e100
  generalize ss.take 100 = ts at *
  generalize min n 100 = m at *
  go_enter Try.func4, Try.ntmps4
  go_upto_region 1 with fail
  rw [← hW]
  rw [← hbx]
  clear hW hbx
  go_upto_region 2 with (first
    | (go_at_call 6; (refine (NC.out _).mono ?_); rintro e w2 ⟨t, S1, rfl, hT, hS, hb⟩
       have B2 := Lib.hid hb
       have T2 := Lib.hid hT
       have S2 := Lib.hid hS
       clear hb hT hS))
  have he1 := he ⟨t, 0, none⟩ w2
  have FA := Lib.hid (FAR.out w2 B2.out)
  clear he FAR
  cases fk
  rotate_left
  · go_upto_region 3 with (first
      | go_skip
      | (go_at_call 7; (with_reducible refine FA.out.mono ?_); rintro e w4 ⟨rfl, hb⟩
         have B4 := Lib.hid hb
         clear hb))
    have he2 := eql_ptr_nilM (P := Try.prog) w4 ⟨t, 0, none⟩ Try.underlying31
    clear he1
    go_wp2_with (first
      | go_skip
      | (go_at_call 8; (with_reducible refine (AC.out _).mono ?_); rintro e w5 ⟨rfl, hb⟩
         have B5 := Lib.hid hb
         clear hb))
    go_ret
    exact ⟨rfl, HB.out.trans ((B2.out.trans ((B4.out.trans (B5.out.mono B4.out.size)).mono B2.out.size)).mono HB.out.size)⟩
  have HNF := Lib.hid (show ∀ s ∈ ts, s.e.n ≤ 200 from fun s hs => by
    have h1 := HFK.out
    unfold farK at h1
    have h2 := List.any_eq_false.1 h1.symm s hs
    simp at h2
    exact h2)
  go_upto_region 6 with (first
    | go_skip
    | (go_at_call 7; (with_reducible refine FA.out.mono ?_); rintro e w4 ⟨rfl, hb⟩
       have B4 := Lib.hid hb
       clear hb)
    | (go_at_call 9; refine (SA.out _).mono ?_; rintro e w5 ⟨rfl, hw⟩; obtain rfl := hw.symm))
  clear he1 FA HFK SA
  have T4 := Lib.hid (KTB.out _ _ _ _ _ T2.out B4.out.size (fun k hk => B4.out.block k (LTK.out _ _ _ _ T2.out k hk)))
  have B4 := Lib.hid (show Below W.heap.size W w4 from B2.out.trans (B4.out.mono B2.out.size))
  go_loopw [34, 6] (fun u v wr => ∃ (i : Nat) (S : Nat → Prop) (rg : Rg) (l9 : Int), u = .int .i64 i ∧ v = .int .i64 l9 ∧ l9 = rg.last ∧ i ≤ m ∧ Inv rg ∧ Tb wr S t rg ∧ (∀ k, S k → W.heap.size ≤ k) ∧ Below W.heap.size W wr) (fun u v _ => 1000 - (intOf u).toNat)
  case atStart => exact ⟨0, S1, ⟨0, []⟩, 0, rfl, rfl, rfl, Nat.zero_le _, Inv.zero, T4.out, S2.out, B4.out⟩
  case round =>
    obtain ⟨i, S0, rg, l9, rfl, rfl, hlr, hi, hinv, hT, hS, hb⟩ := hrel
    have HBW := Lib.hid hb
    have HLR := Lib.hid hlr
    have HIR := Lib.hid hinv
    have HS0 := Lib.hid hS
    clear hinv hlr
    by_cases hlt : i < m
    rotate_left
    · have q6 : ¬ (i : Int) < (m : Int) := by omega
      clear hi hlt hb hT hS
      go_wp2_with (first
        | go_skip
        | (go_at_call 8; (with_reducible refine (AC.out _).mono ?_); rintro e w5 ⟨rfl, hb⟩
           have B5 := Lib.hid hb
           clear hb))
      go_ret
      exact ⟨rfl, HB.out.trans ((HBW.out.trans (B5.out.mono HBW.out.size)).mono HB.out.size)⟩
    have q6 : (i : Int) < (m : Int) := by omega
    have wi : IntKind.i64.wrap ((i : Int) + 1) = (i : Int) + 1 := IntWalk.i64_in _ (by have := HM.out; omega)
    obtain ⟨x, hx⟩ : ∃ x, ts[i]? = some x := ⟨_, List.getElem?_eq_getElem (by rw [HP.out.len]; exact hlt)⟩
    have mx := List.mem_of_getElem? hx
    have ox := HP.out.ok x mx
    obtain ⟨b1, o1, hA1, hb1, c1⟩ := HP.out.at_ (by omega)
    have C1 := Lib.hid (show ∀ q v, x.cells[q]? = some v → wr.cell? ⟨b1, o1 + i * 28 + q, none⟩ = some v from fun q v hv => (hb.cell (p := ⟨b1, o1 + i * 28 + q, none⟩) hb1).trans (c1 i x hx q v hv))
    have IS := Lib.hid (show (Try.prog.info? 43).map (·.size) = some x.cells.length by rw [Sk.cells_len ox.e.ok]; exact step_info)
    have IS2 := Lib.hid (Sk.size ox.e.ok)
    have ZXS := Lib.hid (show ZS.size = x.cells.toArray.size by rw [ZSS.out, List.size_toArray, Sk.cells_len ox.e.ok])
    have OS := Lib.hid (Sk.ones x)
    obtain ⟨y6, hy6⟩ : ∃ W6, W6 = wr.alloc (.cells x.cells.toArray 43) := ⟨_, rfl⟩
    obtain ⟨g8, hg8⟩ : ∃ g, g = wr.heap.size := ⟨_, rfl⟩
    have R6 := Lib.hid (show y6.heap[g8]? = some (.cells x.cells.toArray 43 (0, 0)) by rw [hy6, hg8]; exact heap_alloc_new _ _)
    have A6 := Lib.hid (show Below wr.heap.size wr y6 by rw [hy6]; exact alloc_below _ _)
    have TT6 := Lib.hid (KTB.out _ _ _ _ _ hT A6.out.size (fun k hk => A6.out.block k (LTK.out _ _ _ _ hT k hk)))
    have BB6 := Lib.hid (show Below W.heap.size W y6 from hb.trans (A6.out.mono hb.size))
    have N8 := Lib.hid (show ¬ S0 g8 from fun hs => by have := LTK.out _ _ _ _ hT g8 hs; omega)
    have OX := Lib.hid ox
    have NX := Lib.hid (HNF.out x mx)
    have HI := Lib.hid hlt
    have hzs := HZS.out
    have KEX := Lib.hid (show KeAt W W.heap.size x.e from ox.e)
    subst hA1
    generalize hXC : x.cells = XC at *
    clear hi hb hx mx ox hb1 c1 hlt hT hS
    go_upto_region 8 with (first
      | (refine pkC.wpList_load_partG (by kernel_rfl) 43 (.tmp 36) rfl b1 (o1 + i * 28) (by kernel_rfl) XC _ C1.out Try.underlying43 rfl IS.out ?_)
      | (refine wpList_store_row rfl 43 (.tmp 8) (.tmp 37) rfl wr.heap.size XC.toArray rfl rfl _ _ (heap_alloc_new _ _) IS2.out ZXS.out OS.out ?_; rw [World.setRow_alloc_new]))
    rw [← hy6]
    rw [← hg8]
    clear hy6 hg8 hzs
    subst hXC
    go_upto_region 9 with (first
      | (go_at_call 23; (with_reducible refine (ACC.out _ _ _ _ TT6.out HIR.out).mono ?_); rintro e y8 ⟨A9, n9, c9, es9, rfl, hnc9, ho9, hl9, hv9, hk9, hb⟩
         have LN9 := Lib.hid (show n9 = rg.l.length by rw [← hv9, List.length_map, hl9])
         have TT8 := Lib.hid (KTB.out _ _ _ _ _ TT6.out hb.size (fun k hk => hb.block k (LTK.out _ _ _ _ TT6.out k hk)))
         have BB8 := Lib.hid (show Below W.heap.size W y8 from BB6.out.trans (hb.mono BB6.out.size))
         have R8 := Lib.hid (show y8.heap[g8]? = some (.cells x.cells.toArray 43 (0, 0)) from (hb.block _ (lt_of_row R6.out)).trans R6.out)
         clear hnc9 ho9 hl9 hv9 hk9 hb))
    have cd : y8.cell? ⟨g8, 0, none⟩ = some (.bool x.drop) := cell_of_row y8 g8 0 _ _ (0, 0) R8.out
    have cn8 : y8.cell? ⟨g8, 1, none⟩ = some (.int .i64 x.num) := cell_of_row y8 g8 1 _ _ (0, 0) R8.out
    cases hdr : x.drop
    · rw [hdr] at cd
      by_cases her : addErr rg x.e.val = 0
      · skip
        have C2 := Lib.hid (show ∀ j v, x.e.L[j]? = some v → y8.cell? ⟨g8, 2 + j, none⟩ = some v from fun j v hv => by rw [cell_of_row y8 g8 (2 + j) _ _ (0, 0) R8.out, List.getElem?_toArray]; exact Sk.key j v hv)
        have IE := Lib.hid (show (Try.prog.info? 41).map (·.size) = some x.e.L.length by rw [Ke.L_len OX.out.e]; exact rk_info)
        have TH := Lib.hid (fun w' => (show Calls Try.prog 13 #[.agg x.e.L.toArray] w' (Ret w' (.agg x.e.V)) from theirs_any x.e.k x.e.A x.e.n x.e.c w' OX.out.e.ok))
        have HI9 := Lib.hid (HIR.out.add (k := x.e.val) OX.out.e.ok OX.out.e.byte)
        have L0 := Lib.hid HIR.out.l0
        have nnq := Lib.hid (show addN rg x.e.val = rg.last + 1 by unfold addN; rw [if_pos her])
        have HL9' := Lib.hid (show (addR rg x.e.val).last = rg.last + 1 by unfold addR; rw [if_pos her])
        have ADX := Lib.hid (fun w' S' (h : Tb w' S' t rg) (hk : KeAt w' w'.heap.size x.e) => (show Calls Try.prog 12 #[.pointer (some ⟨t, 0, none⟩), .agg x.e.V] w' (TurnR Tb w' S' t (.tuple #[.int .i64 (rg.last + 1), .int .i64 0]) (addR rg x.e.val)) by have h9 := ADC.out w' S' t rg x.e h HIR.out hk NX.out; rw [her, nnq.out] at h9; exact h9))
        obtain ⟨rg1, hrg1⟩ : ∃ r, r = addR rg x.e.val := ⟨_, rfl⟩
        rw [← hrg1] at ADX HI9
        have HL9 := Lib.hid (show l9 + 1 = rg1.last by rw [hrg1, HL9'.out, HLR.out])
        rw [← HLR.out] at ADX L0
        clear hrg1
        clear her cn8
        go_upto_region 15 with (first
          | (refine pkC.wpList_load_partG (by kernel_rfl) 41 (.tmp 69) rfl g8 2 (by kernel_rfl) x.e.L _ C2.out Try.underlying41 rfl IE.out ?_)
          | (go_at_call 13; (with_reducible refine (TH.out _).mono ?_); rintro e y9 ⟨rfl, hb⟩
             have TT9 := Lib.hid (KTB.out _ _ _ _ _ TT8.out hb.size (fun k hk => hb.block k (LTK.out _ _ _ _ TT8.out k hk)))
             have BB9 := Lib.hid (show Below W.heap.size W y9 from BB8.out.trans (hb.mono BB8.out.size))
             have KE9 := Lib.hid ((KEX.out.below BB9.out (Nat.le_refl _)).below (Below.refl _ _) BB9.out.size)
             clear hb)
          | (go_at_call 12; (with_reducible refine (ADX.out _ _ TT9.out KE9.out).mono ?_); rintro e y14 ⟨rfl, S9, hT, hS, hF⟩
             have TT14 := Lib.hid hT
             have HS14 := Lib.hid (show ∀ k, S9 k → W.heap.size ≤ k from fun k hk => (hS k hk).elim (HS0.out k) (fun h => Nat.le_trans BB9.out.size h))
             have BB14 := Lib.hid (show Below W.heap.size W y14 from BB9.out.trans (hF.to_below HS0.out BB9.out.size))
             clear hT hS hF))
        have ql : ¬ l9 + 1 ≤ l9 := by omega
        have qx : (if l9 < l9 + 1 then l9 + 1 else l9) = l9 + 1 := if_pos (by omega)
        have qy : (if l9 + 1 < l9 then l9 else l9 + 1) = l9 + 1 := if_neg (by omega)
        have qz : max l9 (l9 + 1) = l9 + 1 := by omega
        go_upto_region 18 with (first
          | go_skip)
        clear qx qz
        generalize l9 + 1 = l9 at *
        have TT18 := TT14
        have BB18 := BB14
        generalize y14 = y18 at *
        have HS18 := HS14
        have hmm := @run_makeMap Try.prog
        go_upto_region 19 with fail
        clear hmm
        obtain ⟨y19, hy19⟩ : ∃ y, y = (y18.alloc (.map #[] 0)).alloc (.map #[] 0) := ⟨_, rfl⟩
        obtain ⟨g15, hg15⟩ : ∃ g, g = y18.heap.size := ⟨_, rfl⟩
        obtain ⟨g16, hg16⟩ : ∃ g, g = y18.heap.size + 1 := ⟨_, rfl⟩
        rw [← hy19]
        rw [← hg16]
        rw [← hg15]
        have A19 := Lib.hid (show Below y18.heap.size y18 y19 by rw [hy19]; exact ((Below.refl _ _).alloc (Nat.le_refl _) _).alloc (by simp) _)
        have U15 := Lib.hid (show SetU y19 g15 [] by rw [hy19, hg15]; exact (SetU.made y18).same (Below.block (alloc_below _ _) _ (by simp)))
        have U16 := Lib.hid (show SetU y19 g16 [] by rw [hy19, hg16]; have h9 := SetU.made (y18.alloc (.map #[] 0)); rw [alloc_size] at h9; exact h9)
        have LG16a := Lib.hid U16.out.lt
        have LG15a := Lib.hid U15.out.lt
        have NG := Lib.hid (show g15 ≠ g16 by omega)
        have G15 := Lib.hid (show y18.heap.size ≤ g15 by omega)
        have G16 := Lib.hid (show y18.heap.size ≤ g16 by omega)
        have TT19 := Lib.hid (KTB.out _ _ _ _ _ TT18.out A19.out.size (fun k hk => A19.out.block k (LTK.out _ _ _ _ TT18.out k hk)))
        have BB19 := Lib.hid (show Below W.heap.size W y19 from BB18.out.trans (A19.out.mono BB18.out.size))
        have RB19 := Lib.hid (show y19.heap[bx]? = some (.cells CP 30 (0, 0)) from (BB19.out.block _ (lt_of_row R.out)).trans R.out)
        clear hy19 hg15 hg16
        go_upto_region 20 with (first
          | (refine wpList_load_row rfl 30 (.tmp 3) rfl bx rfl _ _ _ _ RB19.out Try.underlying30 rfl IP.out ?_)
          | (go_at_call 24; (with_reducible refine (FCC.out _ _ _ _ TT19.out HI9.out).mono ?_); rintro e y20 ⟨A5, n5, c5, es, rfl, hnc5, ho5, hl5, hv5, hk5, hb⟩
             have F5 := Lib.hid ho5
             have LN5 := Lib.hid hl5
             have VL5 := Lib.hid hv5
             have KE5 := Lib.hid hk5
             have B20 := Lib.hid hb
             clear hnc5 ho5 hl5 hv5 hk5 hb))
        have L32 := Lib.hid (show n5 ≤ 32 by
          have h1 : (forL rg1 p).length ≤ rg1.l.length := List.length_filter_le _ _
          have h2 := HI9.out.le
          rw [← VL5.out, List.length_map, LN5.out] at h1
          omega)
        obtain ⟨A5', c5', e5, -, -, hr5⟩ := F5.out.form (fun q hq => Ke.L_len (KE5.out q hq).1)
        rw [LN5.out] at e5 hr5
        cases e5
        have ROW5 := Lib.hid hr5
        have ONC := Lib.hid (show (es.map Ke.val).Pairwise (fun x y => x.1.si ≠ y.1.si ∧ x.1.ri ≠ y.1.ri) by rw [VL5.out]; exact HI9.out.once HPO.out)
        have U15 := Lib.hid (U15.out.same (B20.out.block _ U15.out.lt))
        have U16 := Lib.hid (U16.out.same (B20.out.block _ U16.out.lt))
        have LG16 := Lib.hid (show g16 < y19.heap.size from LG16a.out)
        have LG15 := Lib.hid (show g15 < y19.heap.size from LG15a.out)
        clear hr5 RB19
        go_loopw [107] (fun u wr => ∃ j : Nat, u = .int .i64 j ∧ j ≤ n5 ∧ SetU wr g15 ((es.take j).map (·.k.si)) ∧ SetU wr g16 ((es.take j).map (·.k.ri)) ∧ Fs (fun k => k = g15 ∨ k = g16) y20 wr) (fun u _ => n5 + 1 - (intOf u).toNat)
        case atStart => exact ⟨0, rfl, Nat.zero_le _, by rw [List.take_zero]; exact U15.out, by rw [List.take_zero]; exact U16.out, Fs.refl _⟩
        case round =>
          obtain ⟨j, rfl, hj, hu1, hu2, hfs⟩ := hrel
          have FS := Lib.hid hfs
          have UA := Lib.hid hu1
          have UB := Lib.hid hu2
          clear hu1 hu2
          by_cases hlt2 : j < n5
          rotate_left
          · have q7 : ¬ (j : Int) < (n5 : Int) := by omega
            have B26 := Lib.hid (show Below y18.heap.size y18 wr from (A19.out.trans (B20.out.mono A19.out.size)).trans (hfs.to_below (fun k hk => by rcases hk with rfl | rfl; exact G15.out; exact G16.out) (Nat.le_trans A19.out.size B20.out.size)))
            have TT26 := Lib.hid (KTB.out _ _ _ _ _ TT18.out B26.out.size (fun k hk => B26.out.block k (LTK.out _ _ _ _ TT18.out k hk)))
            clear hj hlt2 hfs
            go_wp2_with (first
              | (go_at_call 23; (with_reducible refine (ACC.out _ _ _ _ TT26.out HI9.out).mono ?_); rintro e y27 ⟨A6, n6, c6, es6, rfl, hnc6, ho6, hl6, hv6, hk6, hb⟩
                 have L6 := Lib.hid (show n6 ≤ 32 by have h2 := HI9.out.le; rw [← hv6, List.length_map, hl6] at h2; exact h2)
                 have q9 : ¬ (n6 : Int) > 32 := by have := L6.out; omega
                 have B27 := Lib.hid hb
                 clear hnc6 ho6 hl6 hv6 hk6 hb))
            go_roundw
            case rel => exact ⟨i + 1, S9, rg1, l9, by simp, rfl, HL9.out, HI.out, HI9.out, KTB.out _ _ _ _ _ TT26.out B27.out.size (fun k hk => B27.out.block k (LTK.out _ _ _ _ TT26.out k hk)), HS18.out, BB18.out.trans ((B26.out.trans (B27.out.mono B26.out.size)).mono BB18.out.size)⟩
            case measure => have := HM.out; have := HI.out; simp [intOf]; omega
          have q7 : (j : Int) < (n5 : Int) := by omega
          have wj : IntKind.i64.wrap ((j : Int) + 1) = (j : Int) + 1 := IntWalk.i64_in _ (by have := L32.out; omega)
          obtain ⟨e, hei⟩ : ∃ e, es[j]? = some e := ⟨_, List.getElem?_eq_getElem (by rw [LN5.out]; exact hlt2)⟩
          have me := List.mem_of_getElem? hei
          have ke := (KE5.out e me).1
          obtain ⟨b5, o5, hA5, hlo5, hb5, c5s⟩ := ROW5.out.at_ (by omega)
          subst hA5
          have C1 := Lib.hid (show ∀ q u, e.L[q]? = some u → wr.cell? ⟨b5, o5 + j * 26 + q, none⟩ = some u from fun q u hu => (World.cell?_of_block (w := y20) (a := ⟨b5, o5 + j * 26 + q, none⟩) (hfs.block b5 hb5 (fun hs => by
            rcases hs with hs | hs
            · have := LG15.out; omega
            · have := LG16.out; omega))).trans (c5s j e hei q u hu))
          have IX := Lib.hid (show (Try.prog.info? 49).map (·.size) = some e.L.length by rw [Ke.L_len ke]; exact pk_info)
          have XI := Lib.hid (show (Try.prog.info? 49).map (·.size) = some e.L.toArray.size by rw [List.size_toArray, Ke.L_len ke]; exact pk_info)
          have XZ := Lib.hid (show ZV.size = e.L.toArray.size by rw [ZSZ.out, List.size_toArray, Ke.L_len ke])
          have XO := Lib.hid (show e.L.toArray.all (·.oneCell') = true from kt_ones)
          obtain ⟨y23, hy23⟩ : ∃ y, y = wr.alloc (.cells e.L.toArray 49) := ⟨_, rfl⟩
          obtain ⟨g18, hg18⟩ : ∃ g, g = wr.heap.size := ⟨_, rfl⟩
          have R18 := Lib.hid (show y23.heap[g18]? = some (.cells e.L.toArray 49 (0, 0)) by rw [hy23, hg18]; exact heap_alloc_new _ _)
          have A23 := Lib.hid (show Below wr.heap.size wr y23 by rw [hy23]; exact alloc_below _ _)
          have N18 := Lib.hid (show ¬ (g18 = g15 ∨ g18 = g16) by rw [hg18]; intro hs; rcases hs with hs | hs; have := UA.out.lt; omega; have := UB.out.lt; omega)
          have C21 := Lib.hid (fun (w' : World) (h : w'.heap[g18]? = some (.cells e.L.toArray 49 (0, 0))) => (show w'.cell? ⟨g18, 21, none⟩ = some (.int .u8 e.k.si) from kt_cell h (kt_si ke.ok)))
          have C22 := Lib.hid (fun (w' : World) (h : w'.heap[g18]? = some (.cells e.L.toArray 49 (0, 0))) => (show w'.cell? ⟨g18, 22, none⟩ = some (.int .u8 e.k.ri) from kt_cell h (kt_ri ke.ok)))
          have V1 := Lib.hid (UA.out.same (A23.out.block _ UA.out.lt))
          have V2 := Lib.hid (UB.out.same (A23.out.block _ UB.out.lt))
          have XX := Lib.hid (show ∀ z ∈ es.take j, z.k.si ≠ e.k.si ∧ z.k.ri ≠ e.k.ri from once_at ONC.out hei)
          have X1 := Lib.hid (show ∀ z ∈ (es.take j).map (·.k.si), z ≠ e.k.si from fun z hz => by obtain ⟨y, hy, rfl⟩ := List.mem_map.1 hz; exact (XX.out y hy).1)
          have X2 := Lib.hid (show ∀ z ∈ (es.take j).map (·.k.ri), z ≠ e.k.ri from fun z hz => by obtain ⟨y, hy, rfl⟩ := List.mem_map.1 hz; exact (XX.out y hy).2)
          have Y1 := Lib.hid (show ∀ z ∈ (es.take j).map (·.k.si), Byte z from fun z hz => by obtain ⟨y, hy, rfl⟩ := List.mem_map.1 hz; exact (KE5.out y (List.mem_of_mem_take hy)).1.ok.si)
          have Y2 := Lib.hid (show ∀ z ∈ (es.take j).map (·.k.ri), Byte z from fun z hz => by obtain ⟨y, hy, rfl⟩ := List.mem_map.1 hz; exact (KE5.out y (List.mem_of_mem_take hy)).1.ok.ri)
          have BX1 := Lib.hid ke.ok.si
          have BX2 := Lib.hid ke.ok.ri
          have T1 := Lib.hid (show (es.take (j + 1)).map (·.k.si) = (es.take j).map (·.k.si) ++ [e.k.si] by rw [List.take_add_one, hei, List.map_append]; rfl)
          have T2 := Lib.hid (show (es.take (j + 1)).map (·.k.ri) = (es.take j).map (·.k.ri) ++ [e.k.ri] by rw [List.take_add_one, hei, List.map_append]; rfl)
          have HJ := Lib.hid hlt2
          have D23 := Lib.hid (show Fs (fun k => k = g15 ∨ k = g16) y20 y23 from hfs.trans (Fs.below A23.out))
          have hzp := HZP.out
          obtain ⟨M1, hM1⟩ : ∃ l, l = (es.take (j + 1)).map (·.k.si) := ⟨_, rfl⟩
          obtain ⟨M2, hM2⟩ : ∃ l, l = (es.take (j + 1)).map (·.k.ri) := ⟨_, rfl⟩
          rw [← hM1] at T1
          rw [← hM2] at T2
          have HM1 := Lib.hid hM1
          have HM2 := Lib.hid hM2
          clear hM1 hM2
          generalize (es.take j).map (·.k.si) = L1 at *
          generalize (es.take j).map (·.k.ri) = L2 at *
          generalize e.k.si = x1 at *
          generalize e.k.ri = x2 at *
          generalize e.L = XC at *
          clear hei me ke hlo5 hb5 c5s hfs hlt2 hj XX UA UB
          go_upto_region 22 with (first
            | (refine pkC.wpList_load_partG (by kernel_rfl) 49 (.tmp 109) rfl b5 (o5 + j * 26) (by kernel_rfl) XC _ C1.out Try.underlying49 rfl IX.out ?_)
            | (refine wpList_store_row rfl 49 (.tmp 18) (.tmp 110) rfl wr.heap.size XC.toArray rfl rfl _ _ (heap_alloc_new _ _) XI.out XZ.out XO.out ?_; rw [World.setRow_alloc_new]))
          rw [← hy23]
          rw [← hg18]
          clear hy23 hg18 hzp
          have ca := C21.out y23 R18.out
          have cb := C22.out y23 R18.out
          go_upto_region 24 with (first
            | go_skip
            | (refine wpList_lookUG (by kernel_rfl) (.tmp 111) (.tmp 113) rfl g15 x1 rfl rfl _ V1.out Y1.out BX1.out X1.out ?_)
            | (refine wpList_lookUG (by kernel_rfl) (.tmp 116) (.tmp 118) rfl g16 x2 rfl rfl _ V2.out Y2.out BX2.out X2.out ?_))
          clear ca cb
          refine with_act fun a0 ha0 => ?_
          have hl : ujT.length = a0.tmps.size := by rw [ha0]; rfl
          have k15 : a0.tmps[15]?.getD undef = .map (some g15) := by rw [ha0]; rfl
          have k16 : a0.tmps[16]?.getD undef = .map (some g16) := by rw [ha0]; rfl
          have k18 : a0.tmps[18]?.getD undef = .pointer (some ⟨g18, 0, none⟩) := by rw [ha0]; rfl
          refine wp_region_J (by kernel_rfl) ujT (by kernel_rfl) (by kernel_rfl) hl (fun i => a0.tmps[i + 121]?.getD undef) (by rw [ha0]; rfl) (UJ y23 g15 g16 L1 L2 x1 x2 (ujV g15 g16 g18 x1 x2)) ⟨Fs.below (Below.refl _ _).drew, V1.out.same rfl, V2.out.same rfl, fun i h => by cases h⟩ ⟨?_, ?_, ?_, ?_, ?_, ?_, ?_, ?_, trivial⟩ ?_
          · refine stepJ [] (by kernel_rfl) rfl fun mm us w' hJ hmi hm => ?_
            have o15 := (frame_old2 (us := us) (a := a0) (show (ujT[15]?).join = none from rfl)).trans k15
            generalize frame ujT a0 us = fr at *
            exact val_J (R := fun v w'' => UJ y23 g15 g16 L1 L2 x1 x2 (ujV g15 g16 g18 x1 x2) (upd mm 0 true) (upd us 0 v) w'') (v := .map (some g15)) (w' := w') (by go_simp) (hJ.val_ 0 (by decide) (by decide) rfl)
          · refine stepJ [] (by kernel_rfl) rfl fun mm us w' hJ hmi hm => ?_
            have o18 := (frame_old2 (us := us) (a := a0) (show (ujT[18]?).join = none from rfl)).trans k18
            generalize frame ujT a0 us = fr at *
            exact val_J (R := fun v w'' => UJ y23 g15 g16 L1 L2 x1 x2 (ujV g15 g16 g18 x1 x2) (upd mm 1 true) (upd us 1 v) w'') (v := .pointer (some ⟨g18, 21, none⟩)) (w' := w') (by go_simp) (hJ.val_ 1 (by decide) (by decide) rfl)
          · refine stepJ [1] (by kernel_rfl) rfl fun mm us w' hJ hmi hm => ?_
            have e1 : us 1 = .pointer (some ⟨g18, 21, none⟩) := hJ.val 1 (hm 1 (by simp)) (by decide) (by decide)
            have v1 := (frame_at2 (us := us) hl (show (ujT[122]?).join = some 1 from rfl)).trans e1
            have hc : w'.cell? ⟨g18, 21, none⟩ = some (.int .u8 x1) := C21.out w' (hJ.fs.row R18.out N18.out)
            generalize frame ujT a0 us = fr at *
            exact val_J (R := fun v w'' => UJ y23 g15 g16 L1 L2 x1 x2 (ujV g15 g16 g18 x1 x2) (upd mm 2 true) (upd us 2 v) w'') (v := .int .u8 x1) (w' := w') (by go_simp) (hJ.val_ 2 (by decide) (by decide) rfl)
          · refine stepJ [] (by kernel_rfl) rfl fun mm us w' hJ hmi hm => ?_
            have o16 := (frame_old2 (us := us) (a := a0) (show (ujT[16]?).join = none from rfl)).trans k16
            generalize frame ujT a0 us = fr at *
            exact val_J (R := fun v w'' => UJ y23 g15 g16 L1 L2 x1 x2 (ujV g15 g16 g18 x1 x2) (upd mm 3 true) (upd us 3 v) w'') (v := .map (some g16)) (w' := w') (by go_simp) (hJ.val_ 3 (by decide) (by decide) rfl)
          · refine stepJ [] (by kernel_rfl) rfl fun mm us w' hJ hmi hm => ?_
            have o18 := (frame_old2 (us := us) (a := a0) (show (ujT[18]?).join = none from rfl)).trans k18
            generalize frame ujT a0 us = fr at *
            exact val_J (R := fun v w'' => UJ y23 g15 g16 L1 L2 x1 x2 (ujV g15 g16 g18 x1 x2) (upd mm 4 true) (upd us 4 v) w'') (v := .pointer (some ⟨g18, 22, none⟩)) (w' := w') (by go_simp) (hJ.val_ 4 (by decide) (by decide) rfl)
          · refine stepJ [4] (by kernel_rfl) rfl fun mm us w' hJ hmi hm => ?_
            have e4 : us 4 = .pointer (some ⟨g18, 22, none⟩) := hJ.val 4 (hm 4 (by simp)) (by decide) (by decide)
            have v4 := (frame_at2 (us := us) hl (show (ujT[125]?).join = some 4 from rfl)).trans e4
            have hc : w'.cell? ⟨g18, 22, none⟩ = some (.int .u8 x2) := C22.out w' (hJ.fs.row R18.out N18.out)
            generalize frame ujT a0 us = fr at *
            exact val_J (R := fun v w'' => UJ y23 g15 g16 L1 L2 x1 x2 (ujV g15 g16 g18 x1 x2) (upd mm 5 true) (upd us 5 v) w'') (v := .int .u8 x2) (w' := w') (by go_simp) (hJ.val_ 5 (by decide) (by decide) rfl)
          · refine stepJ [0, 2] (by kernel_rfl) rfl fun mm us w' hJ hmi hm => ?_
            have e0 : us 0 = .map (some g15) := hJ.val 0 (hm 0 (by simp)) (by decide) (by decide)
            have v0 := (frame_at2 (us := us) hl (show (ujT[121]?).join = some 0 from rfl)).trans e0
            have e2 : us 2 = .int .u8 x1 := hJ.val 2 (hm 2 (by simp)) (by decide) (by decide)
            have v2 := (frame_at2 (us := us) hl (show (ujT[123]?).join = some 2 from rfl)).trans e2
            have m1 := hJ.m1
            rw [hmi] at m1
            generalize frame ujT a0 us = fr at *
            exact putU_J (R := fun v w'' => UJ y23 g15 g16 L1 L2 x1 x2 (ujV g15 g16 g18 x1 x2) (upd mm 6 true) (upd us 6 v) w'') 121 123 rfl v0 v2 m1 Y1.out BX1.out X1.out fun w'' h1 h2 => ⟨hJ.fs.trans (Fs.but h2 (.inl rfl)), h1, hJ.m2.same (h2.block g16 hJ.m2.lt (Ne.symm NG.out)), fun j hj h6 h7 => (upd_other us undef h6).trans (hJ.val j (by rw [← upd_other mm true h6]; exact hj) h6 h7)⟩
          · refine stepJ [3, 5] (by kernel_rfl) rfl fun mm us w' hJ hmi hm => ?_
            have e3 : us 3 = .map (some g16) := hJ.val 3 (hm 3 (by simp)) (by decide) (by decide)
            have v3 := (frame_at2 (us := us) hl (show (ujT[124]?).join = some 3 from rfl)).trans e3
            have e5 : us 5 = .int .u8 x2 := hJ.val 5 (hm 5 (by simp)) (by decide) (by decide)
            have v5 := (frame_at2 (us := us) hl (show (ujT[126]?).join = some 5 from rfl)).trans e5
            have m2 := hJ.m2
            rw [hmi] at m2
            generalize frame ujT a0 us = fr at *
            exact putU_J (R := fun v w'' => UJ y23 g15 g16 L1 L2 x1 x2 (ujV g15 g16 g18 x1 x2) (upd mm 7 true) (upd us 7 v) w'') 124 126 rfl v3 v5 m2 Y2.out BX2.out X2.out fun w'' h1 h2 => ⟨hJ.fs.trans (Fs.but h2 (.inr rfl)), hJ.m1.same (h2.block g15 hJ.m1.lt NG.out), h1, fun j hj h6 h7 => (upd_other us undef h7).trans (hJ.val j (by rw [← upd_other mm true h7]; exact hj) h6 h7)⟩
          · intro mm us y25 hall hJ
            have m1 := hJ.m1
            rw [hall 6 (by decide)] at m1
            have m2 := hJ.m2
            rw [hall 7 (by decide)] at m2
            have M1' := Lib.hid (show SetU y25 g15 M1 by rw [T1.out]; exact m1)
            have M2' := Lib.hid (show SetU y25 g16 M2 by rw [T2.out]; exact m2)
            have E25 := Lib.hid (D23.out.trans hJ.fs)
            subst ha0
            simp only [frame, ujT, fill]
            clear m1 m2 hJ hall hl k15 k16 k18
            generalize us 0 = t_0
            generalize us 1 = t_1
            generalize us 2 = t_2
            generalize us 3 = t_3
            generalize us 4 = t_4
            generalize us 5 = t_5
            go_wp2_with fail
            go_roundw
            case rel => exact ⟨j + 1, by simp, HJ.out, by rw [← HM1.out]; exact M1'.out, by rw [← HM2.out]; exact M2'.out, E25.out⟩
            case measure => have := HJ.out; simp [intOf]; omega
      · skip
        have C2 := Lib.hid (show ∀ j v, x.e.L[j]? = some v → y8.cell? ⟨g8, 2 + j, none⟩ = some v from fun j v hv => by rw [cell_of_row y8 g8 (2 + j) _ _ (0, 0) R8.out, List.getElem?_toArray]; exact Sk.key j v hv)
        have IE := Lib.hid (show (Try.prog.info? 41).map (·.size) = some x.e.L.length by rw [Ke.L_len OX.out.e]; exact rk_info)
        have TH := Lib.hid (fun w' => (show Calls Try.prog 13 #[.agg x.e.L.toArray] w' (Ret w' (.agg x.e.V)) from theirs_any x.e.k x.e.A x.e.n x.e.c w' OX.out.e.ok))
        have HI9 := Lib.hid (HIR.out.add (k := x.e.val) OX.out.e.ok OX.out.e.byte)
        have L0 := Lib.hid HIR.out.l0
        have nnq := Lib.hid (show addN rg x.e.val = 0 by unfold addN; rw [if_neg her])
        have hsame := Lib.hid (show addR rg x.e.val = rg by unfold addR; rw [if_neg her])
        have ADX := Lib.hid (fun w' S' (h : Tb w' S' t rg) (hk : KeAt w' w'.heap.size x.e) => (show Calls Try.prog 12 #[.pointer (some ⟨t, 0, none⟩), .agg x.e.V] w' (TurnR Tb w' S' t (.tuple #[.int .i64 0, .int .i64 (addErr rg x.e.val)]) (addR rg x.e.val)) by have h9 := ADC.out w' S' t rg x.e h HIR.out hk NX.out; rw [nnq.out] at h9; exact h9))
        have QE := Lib.hid (show (addErr rg x.e.val == 0) = false from beq_eq_false_iff_ne.2 her)
        have QN := Lib.hid (show (addErr rg x.e.val != 0) = true from bne_iff_ne.2 her)
        obtain ⟨rg1, hrg1⟩ : ∃ r, r = addR rg x.e.val := ⟨_, rfl⟩
        rw [← hrg1] at ADX HI9
        have HL9 := Lib.hid (show l9 = rg1.last by rw [hrg1, hsame.out]; exact HLR.out)
        have LN9 := Lib.hid (show n9 = rg1.l.length by rw [hrg1, hsame.out]; exact LN9.out)
        rw [← HLR.out] at L0
        clear hrg1
        generalize addErr rg x.e.val = er at *
        clear her cn8
        go_upto_region 15 with (first
          | (refine pkC.wpList_load_partG (by kernel_rfl) 41 (.tmp 69) rfl g8 2 (by kernel_rfl) x.e.L _ C2.out Try.underlying41 rfl IE.out ?_)
          | (go_at_call 13; (with_reducible refine (TH.out _).mono ?_); rintro e y9 ⟨rfl, hb⟩
             have TT9 := Lib.hid (KTB.out _ _ _ _ _ TT8.out hb.size (fun k hk => hb.block k (LTK.out _ _ _ _ TT8.out k hk)))
             have BB9 := Lib.hid (show Below W.heap.size W y9 from BB8.out.trans (hb.mono BB8.out.size))
             have KE9 := Lib.hid ((KEX.out.below BB9.out (Nat.le_refl _)).below (Below.refl _ _) BB9.out.size)
             clear hb)
          | (go_at_call 12; (with_reducible refine (ADX.out _ _ TT9.out KE9.out).mono ?_); rintro e y14 ⟨rfl, S9, hT, hS, hF⟩
             have TT14 := Lib.hid hT
             have HS14 := Lib.hid (show ∀ k, S9 k → W.heap.size ≤ k from fun k hk => (hS k hk).elim (HS0.out k) (fun h => Nat.le_trans BB9.out.size h))
             have BB14 := Lib.hid (show Below W.heap.size W y14 from BB9.out.trans (hF.to_below HS0.out BB9.out.size))
             clear hT hS hF))
        have qe := QE.out
        have qn := QN.out
        have qx : (if l9 < 0 then 0 else l9) = l9 := if_neg (by have := L0.out; omega)
        have qz : max l9 0 = l9 := by have := L0.out; omega
        go_upto_region 18 with (first
          | go_skip
          | (go_at_call 23; (with_reducible refine (ACC.out _ _ _ _ TT14.out HI9.out).mono ?_); rintro e y13 ⟨A13, n13, c13, es13, rfl, hnc13, ho13, hl13, hv13, hk13, hb⟩
             obtain rfl : n13 = n9 := by rw [LN9.out, ← hl13, ← List.length_map (f := Ke.val), hv13]
             have BZ := Lib.hid hb
             clear hnc13 ho13 hl13 hv13 hk13 hb))
        clear qx qz
        have TT18 := Lib.hid (KTB.out _ _ _ _ _ TT14.out BZ.out.size (fun k hk => BZ.out.block k (LTK.out _ _ _ _ TT14.out k hk)))
        have BB18 := Lib.hid (show Below W.heap.size W y13 from BB14.out.trans (BZ.out.mono BB14.out.size))
        generalize y13 = y18 at *
        have HS18 := HS14
        have hmm := @run_makeMap Try.prog
        go_upto_region 19 with fail
        clear hmm
        obtain ⟨y19, hy19⟩ : ∃ y, y = (y18.alloc (.map #[] 0)).alloc (.map #[] 0) := ⟨_, rfl⟩
        obtain ⟨g15, hg15⟩ : ∃ g, g = y18.heap.size := ⟨_, rfl⟩
        obtain ⟨g16, hg16⟩ : ∃ g, g = y18.heap.size + 1 := ⟨_, rfl⟩
        rw [← hy19]
        rw [← hg16]
        rw [← hg15]
        have A19 := Lib.hid (show Below y18.heap.size y18 y19 by rw [hy19]; exact ((Below.refl _ _).alloc (Nat.le_refl _) _).alloc (by simp) _)
        have U15 := Lib.hid (show SetU y19 g15 [] by rw [hy19, hg15]; exact (SetU.made y18).same (Below.block (alloc_below _ _) _ (by simp)))
        have U16 := Lib.hid (show SetU y19 g16 [] by rw [hy19, hg16]; have h9 := SetU.made (y18.alloc (.map #[] 0)); rw [alloc_size] at h9; exact h9)
        have LG16a := Lib.hid U16.out.lt
        have LG15a := Lib.hid U15.out.lt
        have NG := Lib.hid (show g15 ≠ g16 by omega)
        have G15 := Lib.hid (show y18.heap.size ≤ g15 by omega)
        have G16 := Lib.hid (show y18.heap.size ≤ g16 by omega)
        have TT19 := Lib.hid (KTB.out _ _ _ _ _ TT18.out A19.out.size (fun k hk => A19.out.block k (LTK.out _ _ _ _ TT18.out k hk)))
        have BB19 := Lib.hid (show Below W.heap.size W y19 from BB18.out.trans (A19.out.mono BB18.out.size))
        have RB19 := Lib.hid (show y19.heap[bx]? = some (.cells CP 30 (0, 0)) from (BB19.out.block _ (lt_of_row R.out)).trans R.out)
        clear hy19 hg15 hg16
        go_upto_region 20 with (first
          | (refine wpList_load_row rfl 30 (.tmp 3) rfl bx rfl _ _ _ _ RB19.out Try.underlying30 rfl IP.out ?_)
          | (go_at_call 24; (with_reducible refine (FCC.out _ _ _ _ TT19.out HI9.out).mono ?_); rintro e y20 ⟨A5, n5, c5, es, rfl, hnc5, ho5, hl5, hv5, hk5, hb⟩
             have F5 := Lib.hid ho5
             have LN5 := Lib.hid hl5
             have VL5 := Lib.hid hv5
             have KE5 := Lib.hid hk5
             have B20 := Lib.hid hb
             clear hnc5 ho5 hl5 hv5 hk5 hb))
        have L32 := Lib.hid (show n5 ≤ 32 by
          have h1 : (forL rg1 p).length ≤ rg1.l.length := List.length_filter_le _ _
          have h2 := HI9.out.le
          rw [← VL5.out, List.length_map, LN5.out] at h1
          omega)
        obtain ⟨A5', c5', e5, -, -, hr5⟩ := F5.out.form (fun q hq => Ke.L_len (KE5.out q hq).1)
        rw [LN5.out] at e5 hr5
        cases e5
        have ROW5 := Lib.hid hr5
        have ONC := Lib.hid (show (es.map Ke.val).Pairwise (fun x y => x.1.si ≠ y.1.si ∧ x.1.ri ≠ y.1.ri) by rw [VL5.out]; exact HI9.out.once HPO.out)
        have U15 := Lib.hid (U15.out.same (B20.out.block _ U15.out.lt))
        have U16 := Lib.hid (U16.out.same (B20.out.block _ U16.out.lt))
        have LG16 := Lib.hid (show g16 < y19.heap.size from LG16a.out)
        have LG15 := Lib.hid (show g15 < y19.heap.size from LG15a.out)
        clear hr5 RB19
        go_loopw [107] (fun u wr => ∃ j : Nat, u = .int .i64 j ∧ j ≤ n5 ∧ SetU wr g15 ((es.take j).map (·.k.si)) ∧ SetU wr g16 ((es.take j).map (·.k.ri)) ∧ Fs (fun k => k = g15 ∨ k = g16) y20 wr) (fun u _ => n5 + 1 - (intOf u).toNat)
        case atStart => exact ⟨0, rfl, Nat.zero_le _, by rw [List.take_zero]; exact U15.out, by rw [List.take_zero]; exact U16.out, Fs.refl _⟩
        case round =>
          obtain ⟨j, rfl, hj, hu1, hu2, hfs⟩ := hrel
          have FS := Lib.hid hfs
          have UA := Lib.hid hu1
          have UB := Lib.hid hu2
          clear hu1 hu2
          by_cases hlt2 : j < n5
          rotate_left
          · have q7 : ¬ (j : Int) < (n5 : Int) := by omega
            have B26 := Lib.hid (show Below y18.heap.size y18 wr from (A19.out.trans (B20.out.mono A19.out.size)).trans (hfs.to_below (fun k hk => by rcases hk with rfl | rfl; exact G15.out; exact G16.out) (Nat.le_trans A19.out.size B20.out.size)))
            have TT26 := Lib.hid (KTB.out _ _ _ _ _ TT18.out B26.out.size (fun k hk => B26.out.block k (LTK.out _ _ _ _ TT18.out k hk)))
            clear hj hlt2 hfs
            go_wp2_with (first
              | (go_at_call 23; (with_reducible refine (ACC.out _ _ _ _ TT26.out HI9.out).mono ?_); rintro e y27 ⟨A6, n6, c6, es6, rfl, hnc6, ho6, hl6, hv6, hk6, hb⟩
                 have L6 := Lib.hid (show n6 ≤ 32 by have h2 := HI9.out.le; rw [← hv6, List.length_map, hl6] at h2; exact h2)
                 have q9 : ¬ (n6 : Int) > 32 := by have := L6.out; omega
                 have B27 := Lib.hid hb
                 clear hnc6 ho6 hl6 hv6 hk6 hb))
            go_roundw
            case rel => exact ⟨i + 1, S9, rg1, l9, by simp, rfl, HL9.out, HI.out, HI9.out, KTB.out _ _ _ _ _ TT26.out B27.out.size (fun k hk => B27.out.block k (LTK.out _ _ _ _ TT26.out k hk)), HS18.out, BB18.out.trans ((B26.out.trans (B27.out.mono B26.out.size)).mono BB18.out.size)⟩
            case measure => have := HM.out; have := HI.out; simp [intOf]; omega
          have q7 : (j : Int) < (n5 : Int) := by omega
          have wj : IntKind.i64.wrap ((j : Int) + 1) = (j : Int) + 1 := IntWalk.i64_in _ (by have := L32.out; omega)
          obtain ⟨e, hei⟩ : ∃ e, es[j]? = some e := ⟨_, List.getElem?_eq_getElem (by rw [LN5.out]; exact hlt2)⟩
          have me := List.mem_of_getElem? hei
          have ke := (KE5.out e me).1
          obtain ⟨b5, o5, hA5, hlo5, hb5, c5s⟩ := ROW5.out.at_ (by omega)
          subst hA5
          have C1 := Lib.hid (show ∀ q u, e.L[q]? = some u → wr.cell? ⟨b5, o5 + j * 26 + q, none⟩ = some u from fun q u hu => (World.cell?_of_block (w := y20) (a := ⟨b5, o5 + j * 26 + q, none⟩) (hfs.block b5 hb5 (fun hs => by
            rcases hs with hs | hs
            · have := LG15.out; omega
            · have := LG16.out; omega))).trans (c5s j e hei q u hu))
          have IX := Lib.hid (show (Try.prog.info? 49).map (·.size) = some e.L.length by rw [Ke.L_len ke]; exact pk_info)
          have XI := Lib.hid (show (Try.prog.info? 49).map (·.size) = some e.L.toArray.size by rw [List.size_toArray, Ke.L_len ke]; exact pk_info)
          have XZ := Lib.hid (show ZV.size = e.L.toArray.size by rw [ZSZ.out, List.size_toArray, Ke.L_len ke])
          have XO := Lib.hid (show e.L.toArray.all (·.oneCell') = true from kt_ones)
          obtain ⟨y23, hy23⟩ : ∃ y, y = wr.alloc (.cells e.L.toArray 49) := ⟨_, rfl⟩
          obtain ⟨g18, hg18⟩ : ∃ g, g = wr.heap.size := ⟨_, rfl⟩
          have R18 := Lib.hid (show y23.heap[g18]? = some (.cells e.L.toArray 49 (0, 0)) by rw [hy23, hg18]; exact heap_alloc_new _ _)
          have A23 := Lib.hid (show Below wr.heap.size wr y23 by rw [hy23]; exact alloc_below _ _)
          have N18 := Lib.hid (show ¬ (g18 = g15 ∨ g18 = g16) by rw [hg18]; intro hs; rcases hs with hs | hs; have := UA.out.lt; omega; have := UB.out.lt; omega)
          have C21 := Lib.hid (fun (w' : World) (h : w'.heap[g18]? = some (.cells e.L.toArray 49 (0, 0))) => (show w'.cell? ⟨g18, 21, none⟩ = some (.int .u8 e.k.si) from kt_cell h (kt_si ke.ok)))
          have C22 := Lib.hid (fun (w' : World) (h : w'.heap[g18]? = some (.cells e.L.toArray 49 (0, 0))) => (show w'.cell? ⟨g18, 22, none⟩ = some (.int .u8 e.k.ri) from kt_cell h (kt_ri ke.ok)))
          have V1 := Lib.hid (UA.out.same (A23.out.block _ UA.out.lt))
          have V2 := Lib.hid (UB.out.same (A23.out.block _ UB.out.lt))
          have XX := Lib.hid (show ∀ z ∈ es.take j, z.k.si ≠ e.k.si ∧ z.k.ri ≠ e.k.ri from once_at ONC.out hei)
          have X1 := Lib.hid (show ∀ z ∈ (es.take j).map (·.k.si), z ≠ e.k.si from fun z hz => by obtain ⟨y, hy, rfl⟩ := List.mem_map.1 hz; exact (XX.out y hy).1)
          have X2 := Lib.hid (show ∀ z ∈ (es.take j).map (·.k.ri), z ≠ e.k.ri from fun z hz => by obtain ⟨y, hy, rfl⟩ := List.mem_map.1 hz; exact (XX.out y hy).2)
          have Y1 := Lib.hid (show ∀ z ∈ (es.take j).map (·.k.si), Byte z from fun z hz => by obtain ⟨y, hy, rfl⟩ := List.mem_map.1 hz; exact (KE5.out y (List.mem_of_mem_take hy)).1.ok.si)
          have Y2 := Lib.hid (show ∀ z ∈ (es.take j).map (·.k.ri), Byte z from fun z hz => by obtain ⟨y, hy, rfl⟩ := List.mem_map.1 hz; exact (KE5.out y (List.mem_of_mem_take hy)).1.ok.ri)
          have BX1 := Lib.hid ke.ok.si
          have BX2 := Lib.hid ke.ok.ri
          have T1 := Lib.hid (show (es.take (j + 1)).map (·.k.si) = (es.take j).map (·.k.si) ++ [e.k.si] by rw [List.take_add_one, hei, List.map_append]; rfl)
          have T2 := Lib.hid (show (es.take (j + 1)).map (·.k.ri) = (es.take j).map (·.k.ri) ++ [e.k.ri] by rw [List.take_add_one, hei, List.map_append]; rfl)
          have HJ := Lib.hid hlt2
          have D23 := Lib.hid (show Fs (fun k => k = g15 ∨ k = g16) y20 y23 from hfs.trans (Fs.below A23.out))
          have hzp := HZP.out
          obtain ⟨M1, hM1⟩ : ∃ l, l = (es.take (j + 1)).map (·.k.si) := ⟨_, rfl⟩
          obtain ⟨M2, hM2⟩ : ∃ l, l = (es.take (j + 1)).map (·.k.ri) := ⟨_, rfl⟩
          rw [← hM1] at T1
          rw [← hM2] at T2
          have HM1 := Lib.hid hM1
          have HM2 := Lib.hid hM2
          clear hM1 hM2
          generalize (es.take j).map (·.k.si) = L1 at *
          generalize (es.take j).map (·.k.ri) = L2 at *
          generalize e.k.si = x1 at *
          generalize e.k.ri = x2 at *
          generalize e.L = XC at *
          clear hei me ke hlo5 hb5 c5s hfs hlt2 hj XX UA UB
          go_upto_region 22 with (first
            | (refine pkC.wpList_load_partG (by kernel_rfl) 49 (.tmp 109) rfl b5 (o5 + j * 26) (by kernel_rfl) XC _ C1.out Try.underlying49 rfl IX.out ?_)
            | (refine wpList_store_row rfl 49 (.tmp 18) (.tmp 110) rfl wr.heap.size XC.toArray rfl rfl _ _ (heap_alloc_new _ _) XI.out XZ.out XO.out ?_; rw [World.setRow_alloc_new]))
          rw [← hy23]
          rw [← hg18]
          clear hy23 hg18 hzp
          have ca := C21.out y23 R18.out
          have cb := C22.out y23 R18.out
          go_upto_region 24 with (first
            | go_skip
            | (refine wpList_lookUG (by kernel_rfl) (.tmp 111) (.tmp 113) rfl g15 x1 rfl rfl _ V1.out Y1.out BX1.out X1.out ?_)
            | (refine wpList_lookUG (by kernel_rfl) (.tmp 116) (.tmp 118) rfl g16 x2 rfl rfl _ V2.out Y2.out BX2.out X2.out ?_))
          clear ca cb
          refine with_act fun a0 ha0 => ?_
          have hl : ujT.length = a0.tmps.size := by rw [ha0]; rfl
          have k15 : a0.tmps[15]?.getD undef = .map (some g15) := by rw [ha0]; rfl
          have k16 : a0.tmps[16]?.getD undef = .map (some g16) := by rw [ha0]; rfl
          have k18 : a0.tmps[18]?.getD undef = .pointer (some ⟨g18, 0, none⟩) := by rw [ha0]; rfl
          refine wp_region_J (by kernel_rfl) ujT (by kernel_rfl) (by kernel_rfl) hl (fun i => a0.tmps[i + 121]?.getD undef) (by rw [ha0]; rfl) (UJ y23 g15 g16 L1 L2 x1 x2 (ujV g15 g16 g18 x1 x2)) ⟨Fs.below (Below.refl _ _).drew, V1.out.same rfl, V2.out.same rfl, fun i h => by cases h⟩ ⟨?_, ?_, ?_, ?_, ?_, ?_, ?_, ?_, trivial⟩ ?_
          · refine stepJ [] (by kernel_rfl) rfl fun mm us w' hJ hmi hm => ?_
            have o15 := (frame_old2 (us := us) (a := a0) (show (ujT[15]?).join = none from rfl)).trans k15
            generalize frame ujT a0 us = fr at *
            exact val_J (R := fun v w'' => UJ y23 g15 g16 L1 L2 x1 x2 (ujV g15 g16 g18 x1 x2) (upd mm 0 true) (upd us 0 v) w'') (v := .map (some g15)) (w' := w') (by go_simp) (hJ.val_ 0 (by decide) (by decide) rfl)
          · refine stepJ [] (by kernel_rfl) rfl fun mm us w' hJ hmi hm => ?_
            have o18 := (frame_old2 (us := us) (a := a0) (show (ujT[18]?).join = none from rfl)).trans k18
            generalize frame ujT a0 us = fr at *
            exact val_J (R := fun v w'' => UJ y23 g15 g16 L1 L2 x1 x2 (ujV g15 g16 g18 x1 x2) (upd mm 1 true) (upd us 1 v) w'') (v := .pointer (some ⟨g18, 21, none⟩)) (w' := w') (by go_simp) (hJ.val_ 1 (by decide) (by decide) rfl)
          · refine stepJ [1] (by kernel_rfl) rfl fun mm us w' hJ hmi hm => ?_
            have e1 : us 1 = .pointer (some ⟨g18, 21, none⟩) := hJ.val 1 (hm 1 (by simp)) (by decide) (by decide)
            have v1 := (frame_at2 (us := us) hl (show (ujT[122]?).join = some 1 from rfl)).trans e1
            have hc : w'.cell? ⟨g18, 21, none⟩ = some (.int .u8 x1) := C21.out w' (hJ.fs.row R18.out N18.out)
            generalize frame ujT a0 us = fr at *
            exact val_J (R := fun v w'' => UJ y23 g15 g16 L1 L2 x1 x2 (ujV g15 g16 g18 x1 x2) (upd mm 2 true) (upd us 2 v) w'') (v := .int .u8 x1) (w' := w') (by go_simp) (hJ.val_ 2 (by decide) (by decide) rfl)
          · refine stepJ [] (by kernel_rfl) rfl fun mm us w' hJ hmi hm => ?_
            have o16 := (frame_old2 (us := us) (a := a0) (show (ujT[16]?).join = none from rfl)).trans k16
            generalize frame ujT a0 us = fr at *
            exact val_J (R := fun v w'' => UJ y23 g15 g16 L1 L2 x1 x2 (ujV g15 g16 g18 x1 x2) (upd mm 3 true) (upd us 3 v) w'') (v := .map (some g16)) (w' := w') (by go_simp) (hJ.val_ 3 (by decide) (by decide) rfl)
          · refine stepJ [] (by kernel_rfl) rfl fun mm us w' hJ hmi hm => ?_
            have o18 := (frame_old2 (us := us) (a := a0) (show (ujT[18]?).join = none from rfl)).trans k18
            generalize frame ujT a0 us = fr at *
            exact val_J (R := fun v w'' => UJ y23 g15 g16 L1 L2 x1 x2 (ujV g15 g16 g18 x1 x2) (upd mm 4 true) (upd us 4 v) w'') (v := .pointer (some ⟨g18, 22, none⟩)) (w' := w') (by go_simp) (hJ.val_ 4 (by decide) (by decide) rfl)
          · refine stepJ [4] (by kernel_rfl) rfl fun mm us w' hJ hmi hm => ?_
            have e4 : us 4 = .pointer (some ⟨g18, 22, none⟩) := hJ.val 4 (hm 4 (by simp)) (by decide) (by decide)
            have v4 := (frame_at2 (us := us) hl (show (ujT[125]?).join = some 4 from rfl)).trans e4
            have hc : w'.cell? ⟨g18, 22, none⟩ = some (.int .u8 x2) := C22.out w' (hJ.fs.row R18.out N18.out)
            generalize frame ujT a0 us = fr at *
            exact val_J (R := fun v w'' => UJ y23 g15 g16 L1 L2 x1 x2 (ujV g15 g16 g18 x1 x2) (upd mm 5 true) (upd us 5 v) w'') (v := .int .u8 x2) (w' := w') (by go_simp) (hJ.val_ 5 (by decide) (by decide) rfl)
          · refine stepJ [0, 2] (by kernel_rfl) rfl fun mm us w' hJ hmi hm => ?_
            have e0 : us 0 = .map (some g15) := hJ.val 0 (hm 0 (by simp)) (by decide) (by decide)
            have v0 := (frame_at2 (us := us) hl (show (ujT[121]?).join = some 0 from rfl)).trans e0
            have e2 : us 2 = .int .u8 x1 := hJ.val 2 (hm 2 (by simp)) (by decide) (by decide)
            have v2 := (frame_at2 (us := us) hl (show (ujT[123]?).join = some 2 from rfl)).trans e2
            have m1 := hJ.m1
            rw [hmi] at m1
            generalize frame ujT a0 us = fr at *
            exact putU_J (R := fun v w'' => UJ y23 g15 g16 L1 L2 x1 x2 (ujV g15 g16 g18 x1 x2) (upd mm 6 true) (upd us 6 v) w'') 121 123 rfl v0 v2 m1 Y1.out BX1.out X1.out fun w'' h1 h2 => ⟨hJ.fs.trans (Fs.but h2 (.inl rfl)), h1, hJ.m2.same (h2.block g16 hJ.m2.lt (Ne.symm NG.out)), fun j hj h6 h7 => (upd_other us undef h6).trans (hJ.val j (by rw [← upd_other mm true h6]; exact hj) h6 h7)⟩
          · refine stepJ [3, 5] (by kernel_rfl) rfl fun mm us w' hJ hmi hm => ?_
            have e3 : us 3 = .map (some g16) := hJ.val 3 (hm 3 (by simp)) (by decide) (by decide)
            have v3 := (frame_at2 (us := us) hl (show (ujT[124]?).join = some 3 from rfl)).trans e3
            have e5 : us 5 = .int .u8 x2 := hJ.val 5 (hm 5 (by simp)) (by decide) (by decide)
            have v5 := (frame_at2 (us := us) hl (show (ujT[126]?).join = some 5 from rfl)).trans e5
            have m2 := hJ.m2
            rw [hmi] at m2
            generalize frame ujT a0 us = fr at *
            exact putU_J (R := fun v w'' => UJ y23 g15 g16 L1 L2 x1 x2 (ujV g15 g16 g18 x1 x2) (upd mm 7 true) (upd us 7 v) w'') 124 126 rfl v3 v5 m2 Y2.out BX2.out X2.out fun w'' h1 h2 => ⟨hJ.fs.trans (Fs.but h2 (.inr rfl)), hJ.m1.same (h2.block g15 hJ.m1.lt NG.out), h1, fun j hj h6 h7 => (upd_other us undef h7).trans (hJ.val j (by rw [← upd_other mm true h7]; exact hj) h6 h7)⟩
          · intro mm us y25 hall hJ
            have m1 := hJ.m1
            rw [hall 6 (by decide)] at m1
            have m2 := hJ.m2
            rw [hall 7 (by decide)] at m2
            have M1' := Lib.hid (show SetU y25 g15 M1 by rw [T1.out]; exact m1)
            have M2' := Lib.hid (show SetU y25 g16 M2 by rw [T2.out]; exact m2)
            have E25 := Lib.hid (D23.out.trans hJ.fs)
            subst ha0
            simp only [frame, ujT, fill]
            clear m1 m2 hJ hall hl k15 k16 k18
            generalize us 0 = t_0
            generalize us 1 = t_1
            generalize us 2 = t_2
            generalize us 3 = t_3
            generalize us 4 = t_4
            generalize us 5 = t_5
            go_wp2_with fail
            go_roundw
            case rel => exact ⟨j + 1, by simp, HJ.out, by rw [← HM1.out]; exact M1'.out, by rw [← HM2.out]; exact M2'.out, E25.out⟩
            case measure => have := HJ.out; simp [intOf]; omega
    · rw [hdr] at cd
      cases hhas : hasN rg x.num
      · skip
        have hde := Lib.hid (show dropErr rg x.num = 6 by unfold dropErr; rw [hhas]; rfl)
        have DRX := Lib.hid (show Calls Try.prog 10 #[.pointer (some ⟨t, 0, none⟩), .int .i64 x.num] y8 (TurnR Tb y8 S0 t (.int .i64 6) (dropR rg x.num)) by have h9 := DRC.out y8 S0 t rg x.num TT8.out HIR.out; rw [hde.out] at h9; exact h9)
        have HI9 := Lib.hid (HIR.out.drop x.num)
        have G6 := Lib.hid (getP_drop HIR.out x.num)
        have hsame := Lib.hid (show dropR rg x.num = rg from drop_same hhas)
        obtain ⟨rg1, hrg1⟩ : ∃ r, r = dropR rg x.num := ⟨_, rfl⟩
        have LN9 := Lib.hid (show n9 = rg1.l.length by rw [hrg1, hsame.out]; exact LN9.out)
        rw [← hrg1] at DRX HI9 G6
        have HL9 := Lib.hid (show l9 = rg1.last by rw [hrg1]; exact HLR.out)
        have GEX := Lib.hid (fun w' S' (h : Tb w' S' t rg1) => (show Calls Try.prog 19 #[.pointer (some ⟨t, 0, none⟩), .int .i64 x.num] w' (fun e w'' => ∃ q : Ke, KeAt w'' w''.heap.size q ∧ e = .returned (.tuple #[.agg q.V, .int .i64 6]) ∧ Below w'.heap.size w' w'') from (GEC.out w' S' t rg1 x.num h HI9.out).mono fun e w'' ⟨q, h1, h2, h3, h4⟩ => ⟨q, h1, by rw [G6.out] at h3; exact h3, h4⟩))
        clear hrg1 hhas G6
        go_upto_region 11 with (first
          | go_skip
          | (go_at_call 10; (with_reducible refine DRX.out.mono ?_); rintro e y10 ⟨rfl, S9, hT, hS, hF⟩
             have TT10 := Lib.hid hT
             have HS10 := Lib.hid (show ∀ k, S9 k → W.heap.size ≤ k from fun k hk => (hS k hk).elim (HS0.out k) (fun h => Nat.le_trans BB8.out.size h))
             have BB10 := Lib.hid (show Below W.heap.size W y10 from BB8.out.trans (hF.to_below HS0.out BB8.out.size))
             have cn10 : y10.cell? ⟨g8, 1, none⟩ = some (.int .i64 x.num) := by rw [cell_of_row y10 g8 1 _ _ (0, 0) (hF.row R8.out N8.out)]; rfl
             clear hT hS hF))
        clear cn8
        have hzp := HZP.out
        go_upto_region 12 with (first
          | (go_at_call 19; (with_reducible refine (GEX.out _ _ TT10.out).mono ?_); rintro e y11 ⟨q11, hke, rfl, hb⟩
             have BB11 := Lib.hid (show Below W.heap.size W y11 from BB10.out.trans (hb.mono BB10.out.size))
             have TT11 := Lib.hid (KTB.out _ _ _ _ _ TT10.out hb.size (fun k hk => hb.block k (LTK.out _ _ _ _ TT10.out k hk)))
             have IQ := Lib.hid (show (Try.prog.info? 49).map (·.size) = some q11.V.size by rw [Ke.V_size hke]; exact pk_info)
             have ZQ := Lib.hid (show ZV.size = q11.V.size by rw [ZSZ.out, Ke.V_size hke])
             have OQ := Lib.hid (show q11.V.all (·.oneCell') = true from kt_ones)
             clear hke hb)
          | (refine wpList_store_row rfl 49 (.tmp 11) (.tmp 51) rfl y11.heap.size q11.V rfl rfl _ _ (heap_alloc_new _ _) IQ.out ZQ.out OQ.out ?_; rw [World.setRow_alloc_new]))
        clear cn10 hzp
        obtain ⟨y12, hy12⟩ : ∃ y, y = y11.alloc (.cells q11.V 49) := ⟨_, rfl⟩
        rw [← hy12]
        have A12 := Lib.hid (show Below y11.heap.size y11 y12 by rw [hy12]; exact alloc_below _ _)
        have TT12 := Lib.hid (KTB.out _ _ _ _ _ TT11.out A12.out.size (fun k hk => A12.out.block k (LTK.out _ _ _ _ TT11.out k hk)))
        have BB12 := Lib.hid (show Below W.heap.size W y12 from BB11.out.trans (A12.out.mono BB11.out.size))
        generalize y11.heap.size = g11 at *
        clear hy12
        go_upto_region 18 with (first
          | go_skip
          | (go_at_call 23; (with_reducible refine (ACC.out _ _ _ _ TT12.out HI9.out).mono ?_); rintro e y13 ⟨A13, n13, c13, es13, rfl, hnc13, ho13, hl13, hv13, hk13, hb⟩
             obtain rfl : n13 = n9 := by rw [LN9.out, ← hl13, ← List.length_map (f := Ke.val), hv13]
             have BZ := Lib.hid hb
             clear hnc13 ho13 hl13 hv13 hk13 hb))
        have TT18 := Lib.hid (KTB.out _ _ _ _ _ TT12.out BZ.out.size (fun k hk => BZ.out.block k (LTK.out _ _ _ _ TT12.out k hk)))
        have BB18 := Lib.hid (show Below W.heap.size W y13 from BB12.out.trans (BZ.out.mono BB12.out.size))
        generalize y13 = y18 at *
        have HS18 := HS10
        have hmm := @run_makeMap Try.prog
        go_upto_region 19 with fail
        clear hmm
        obtain ⟨y19, hy19⟩ : ∃ y, y = (y18.alloc (.map #[] 0)).alloc (.map #[] 0) := ⟨_, rfl⟩
        obtain ⟨g15, hg15⟩ : ∃ g, g = y18.heap.size := ⟨_, rfl⟩
        obtain ⟨g16, hg16⟩ : ∃ g, g = y18.heap.size + 1 := ⟨_, rfl⟩
        rw [← hy19]
        rw [← hg16]
        rw [← hg15]
        have A19 := Lib.hid (show Below y18.heap.size y18 y19 by rw [hy19]; exact ((Below.refl _ _).alloc (Nat.le_refl _) _).alloc (by simp) _)
        have U15 := Lib.hid (show SetU y19 g15 [] by rw [hy19, hg15]; exact (SetU.made y18).same (Below.block (alloc_below _ _) _ (by simp)))
        have U16 := Lib.hid (show SetU y19 g16 [] by rw [hy19, hg16]; have h9 := SetU.made (y18.alloc (.map #[] 0)); rw [alloc_size] at h9; exact h9)
        have LG16a := Lib.hid U16.out.lt
        have LG15a := Lib.hid U15.out.lt
        have NG := Lib.hid (show g15 ≠ g16 by omega)
        have G15 := Lib.hid (show y18.heap.size ≤ g15 by omega)
        have G16 := Lib.hid (show y18.heap.size ≤ g16 by omega)
        have TT19 := Lib.hid (KTB.out _ _ _ _ _ TT18.out A19.out.size (fun k hk => A19.out.block k (LTK.out _ _ _ _ TT18.out k hk)))
        have BB19 := Lib.hid (show Below W.heap.size W y19 from BB18.out.trans (A19.out.mono BB18.out.size))
        have RB19 := Lib.hid (show y19.heap[bx]? = some (.cells CP 30 (0, 0)) from (BB19.out.block _ (lt_of_row R.out)).trans R.out)
        clear hy19 hg15 hg16
        go_upto_region 20 with (first
          | (refine wpList_load_row rfl 30 (.tmp 3) rfl bx rfl _ _ _ _ RB19.out Try.underlying30 rfl IP.out ?_)
          | (go_at_call 24; (with_reducible refine (FCC.out _ _ _ _ TT19.out HI9.out).mono ?_); rintro e y20 ⟨A5, n5, c5, es, rfl, hnc5, ho5, hl5, hv5, hk5, hb⟩
             have F5 := Lib.hid ho5
             have LN5 := Lib.hid hl5
             have VL5 := Lib.hid hv5
             have KE5 := Lib.hid hk5
             have B20 := Lib.hid hb
             clear hnc5 ho5 hl5 hv5 hk5 hb))
        have L32 := Lib.hid (show n5 ≤ 32 by
          have h1 : (forL rg1 p).length ≤ rg1.l.length := List.length_filter_le _ _
          have h2 := HI9.out.le
          rw [← VL5.out, List.length_map, LN5.out] at h1
          omega)
        obtain ⟨A5', c5', e5, -, -, hr5⟩ := F5.out.form (fun q hq => Ke.L_len (KE5.out q hq).1)
        rw [LN5.out] at e5 hr5
        cases e5
        have ROW5 := Lib.hid hr5
        have ONC := Lib.hid (show (es.map Ke.val).Pairwise (fun x y => x.1.si ≠ y.1.si ∧ x.1.ri ≠ y.1.ri) by rw [VL5.out]; exact HI9.out.once HPO.out)
        have U15 := Lib.hid (U15.out.same (B20.out.block _ U15.out.lt))
        have U16 := Lib.hid (U16.out.same (B20.out.block _ U16.out.lt))
        have LG16 := Lib.hid (show g16 < y19.heap.size from LG16a.out)
        have LG15 := Lib.hid (show g15 < y19.heap.size from LG15a.out)
        clear hr5 RB19
        go_loopw [107] (fun u wr => ∃ j : Nat, u = .int .i64 j ∧ j ≤ n5 ∧ SetU wr g15 ((es.take j).map (·.k.si)) ∧ SetU wr g16 ((es.take j).map (·.k.ri)) ∧ Fs (fun k => k = g15 ∨ k = g16) y20 wr) (fun u _ => n5 + 1 - (intOf u).toNat)
        case atStart => exact ⟨0, rfl, Nat.zero_le _, by rw [List.take_zero]; exact U15.out, by rw [List.take_zero]; exact U16.out, Fs.refl _⟩
        case round =>
          obtain ⟨j, rfl, hj, hu1, hu2, hfs⟩ := hrel
          have FS := Lib.hid hfs
          have UA := Lib.hid hu1
          have UB := Lib.hid hu2
          clear hu1 hu2
          by_cases hlt2 : j < n5
          rotate_left
          · have q7 : ¬ (j : Int) < (n5 : Int) := by omega
            have B26 := Lib.hid (show Below y18.heap.size y18 wr from (A19.out.trans (B20.out.mono A19.out.size)).trans (hfs.to_below (fun k hk => by rcases hk with rfl | rfl; exact G15.out; exact G16.out) (Nat.le_trans A19.out.size B20.out.size)))
            have TT26 := Lib.hid (KTB.out _ _ _ _ _ TT18.out B26.out.size (fun k hk => B26.out.block k (LTK.out _ _ _ _ TT18.out k hk)))
            clear hj hlt2 hfs
            go_wp2_with (first
              | (go_at_call 23; (with_reducible refine (ACC.out _ _ _ _ TT26.out HI9.out).mono ?_); rintro e y27 ⟨A6, n6, c6, es6, rfl, hnc6, ho6, hl6, hv6, hk6, hb⟩
                 have L6 := Lib.hid (show n6 ≤ 32 by have h2 := HI9.out.le; rw [← hv6, List.length_map, hl6] at h2; exact h2)
                 have q9 : ¬ (n6 : Int) > 32 := by have := L6.out; omega
                 have B27 := Lib.hid hb
                 clear hnc6 ho6 hl6 hv6 hk6 hb))
            go_roundw
            case rel => exact ⟨i + 1, S9, rg1, l9, by simp, rfl, HL9.out, HI.out, HI9.out, KTB.out _ _ _ _ _ TT26.out B27.out.size (fun k hk => B27.out.block k (LTK.out _ _ _ _ TT26.out k hk)), HS18.out, BB18.out.trans ((B26.out.trans (B27.out.mono B26.out.size)).mono BB18.out.size)⟩
            case measure => have := HM.out; have := HI.out; simp [intOf]; omega
          have q7 : (j : Int) < (n5 : Int) := by omega
          have wj : IntKind.i64.wrap ((j : Int) + 1) = (j : Int) + 1 := IntWalk.i64_in _ (by have := L32.out; omega)
          obtain ⟨e, hei⟩ : ∃ e, es[j]? = some e := ⟨_, List.getElem?_eq_getElem (by rw [LN5.out]; exact hlt2)⟩
          have me := List.mem_of_getElem? hei
          have ke := (KE5.out e me).1
          obtain ⟨b5, o5, hA5, hlo5, hb5, c5s⟩ := ROW5.out.at_ (by omega)
          subst hA5
          have C1 := Lib.hid (show ∀ q u, e.L[q]? = some u → wr.cell? ⟨b5, o5 + j * 26 + q, none⟩ = some u from fun q u hu => (World.cell?_of_block (w := y20) (a := ⟨b5, o5 + j * 26 + q, none⟩) (hfs.block b5 hb5 (fun hs => by
            rcases hs with hs | hs
            · have := LG15.out; omega
            · have := LG16.out; omega))).trans (c5s j e hei q u hu))
          have IX := Lib.hid (show (Try.prog.info? 49).map (·.size) = some e.L.length by rw [Ke.L_len ke]; exact pk_info)
          have XI := Lib.hid (show (Try.prog.info? 49).map (·.size) = some e.L.toArray.size by rw [List.size_toArray, Ke.L_len ke]; exact pk_info)
          have XZ := Lib.hid (show ZV.size = e.L.toArray.size by rw [ZSZ.out, List.size_toArray, Ke.L_len ke])
          have XO := Lib.hid (show e.L.toArray.all (·.oneCell') = true from kt_ones)
          obtain ⟨y23, hy23⟩ : ∃ y, y = wr.alloc (.cells e.L.toArray 49) := ⟨_, rfl⟩
          obtain ⟨g18, hg18⟩ : ∃ g, g = wr.heap.size := ⟨_, rfl⟩
          have R18 := Lib.hid (show y23.heap[g18]? = some (.cells e.L.toArray 49 (0, 0)) by rw [hy23, hg18]; exact heap_alloc_new _ _)
          have A23 := Lib.hid (show Below wr.heap.size wr y23 by rw [hy23]; exact alloc_below _ _)
          have N18 := Lib.hid (show ¬ (g18 = g15 ∨ g18 = g16) by rw [hg18]; intro hs; rcases hs with hs | hs; have := UA.out.lt; omega; have := UB.out.lt; omega)
          have C21 := Lib.hid (fun (w' : World) (h : w'.heap[g18]? = some (.cells e.L.toArray 49 (0, 0))) => (show w'.cell? ⟨g18, 21, none⟩ = some (.int .u8 e.k.si) from kt_cell h (kt_si ke.ok)))
          have C22 := Lib.hid (fun (w' : World) (h : w'.heap[g18]? = some (.cells e.L.toArray 49 (0, 0))) => (show w'.cell? ⟨g18, 22, none⟩ = some (.int .u8 e.k.ri) from kt_cell h (kt_ri ke.ok)))
          have V1 := Lib.hid (UA.out.same (A23.out.block _ UA.out.lt))
          have V2 := Lib.hid (UB.out.same (A23.out.block _ UB.out.lt))
          have XX := Lib.hid (show ∀ z ∈ es.take j, z.k.si ≠ e.k.si ∧ z.k.ri ≠ e.k.ri from once_at ONC.out hei)
          have X1 := Lib.hid (show ∀ z ∈ (es.take j).map (·.k.si), z ≠ e.k.si from fun z hz => by obtain ⟨y, hy, rfl⟩ := List.mem_map.1 hz; exact (XX.out y hy).1)
          have X2 := Lib.hid (show ∀ z ∈ (es.take j).map (·.k.ri), z ≠ e.k.ri from fun z hz => by obtain ⟨y, hy, rfl⟩ := List.mem_map.1 hz; exact (XX.out y hy).2)
          have Y1 := Lib.hid (show ∀ z ∈ (es.take j).map (·.k.si), Byte z from fun z hz => by obtain ⟨y, hy, rfl⟩ := List.mem_map.1 hz; exact (KE5.out y (List.mem_of_mem_take hy)).1.ok.si)
          have Y2 := Lib.hid (show ∀ z ∈ (es.take j).map (·.k.ri), Byte z from fun z hz => by obtain ⟨y, hy, rfl⟩ := List.mem_map.1 hz; exact (KE5.out y (List.mem_of_mem_take hy)).1.ok.ri)
          have BX1 := Lib.hid ke.ok.si
          have BX2 := Lib.hid ke.ok.ri
          have T1 := Lib.hid (show (es.take (j + 1)).map (·.k.si) = (es.take j).map (·.k.si) ++ [e.k.si] by rw [List.take_add_one, hei, List.map_append]; rfl)
          have T2 := Lib.hid (show (es.take (j + 1)).map (·.k.ri) = (es.take j).map (·.k.ri) ++ [e.k.ri] by rw [List.take_add_one, hei, List.map_append]; rfl)
          have HJ := Lib.hid hlt2
          have D23 := Lib.hid (show Fs (fun k => k = g15 ∨ k = g16) y20 y23 from hfs.trans (Fs.below A23.out))
          have hzp := HZP.out
          obtain ⟨M1, hM1⟩ : ∃ l, l = (es.take (j + 1)).map (·.k.si) := ⟨_, rfl⟩
          obtain ⟨M2, hM2⟩ : ∃ l, l = (es.take (j + 1)).map (·.k.ri) := ⟨_, rfl⟩
          rw [← hM1] at T1
          rw [← hM2] at T2
          have HM1 := Lib.hid hM1
          have HM2 := Lib.hid hM2
          clear hM1 hM2
          generalize (es.take j).map (·.k.si) = L1 at *
          generalize (es.take j).map (·.k.ri) = L2 at *
          generalize e.k.si = x1 at *
          generalize e.k.ri = x2 at *
          generalize e.L = XC at *
          clear hei me ke hlo5 hb5 c5s hfs hlt2 hj XX UA UB
          go_upto_region 22 with (first
            | (refine pkC.wpList_load_partG (by kernel_rfl) 49 (.tmp 109) rfl b5 (o5 + j * 26) (by kernel_rfl) XC _ C1.out Try.underlying49 rfl IX.out ?_)
            | (refine wpList_store_row rfl 49 (.tmp 18) (.tmp 110) rfl wr.heap.size XC.toArray rfl rfl _ _ (heap_alloc_new _ _) XI.out XZ.out XO.out ?_; rw [World.setRow_alloc_new]))
          rw [← hy23]
          rw [← hg18]
          clear hy23 hg18 hzp
          have ca := C21.out y23 R18.out
          have cb := C22.out y23 R18.out
          go_upto_region 24 with (first
            | go_skip
            | (refine wpList_lookUG (by kernel_rfl) (.tmp 111) (.tmp 113) rfl g15 x1 rfl rfl _ V1.out Y1.out BX1.out X1.out ?_)
            | (refine wpList_lookUG (by kernel_rfl) (.tmp 116) (.tmp 118) rfl g16 x2 rfl rfl _ V2.out Y2.out BX2.out X2.out ?_))
          clear ca cb
          refine with_act fun a0 ha0 => ?_
          have hl : ujT.length = a0.tmps.size := by rw [ha0]; rfl
          have k15 : a0.tmps[15]?.getD undef = .map (some g15) := by rw [ha0]; rfl
          have k16 : a0.tmps[16]?.getD undef = .map (some g16) := by rw [ha0]; rfl
          have k18 : a0.tmps[18]?.getD undef = .pointer (some ⟨g18, 0, none⟩) := by rw [ha0]; rfl
          refine wp_region_J (by kernel_rfl) ujT (by kernel_rfl) (by kernel_rfl) hl (fun i => a0.tmps[i + 121]?.getD undef) (by rw [ha0]; rfl) (UJ y23 g15 g16 L1 L2 x1 x2 (ujV g15 g16 g18 x1 x2)) ⟨Fs.below (Below.refl _ _).drew, V1.out.same rfl, V2.out.same rfl, fun i h => by cases h⟩ ⟨?_, ?_, ?_, ?_, ?_, ?_, ?_, ?_, trivial⟩ ?_
          · refine stepJ [] (by kernel_rfl) rfl fun mm us w' hJ hmi hm => ?_
            have o15 := (frame_old2 (us := us) (a := a0) (show (ujT[15]?).join = none from rfl)).trans k15
            generalize frame ujT a0 us = fr at *
            exact val_J (R := fun v w'' => UJ y23 g15 g16 L1 L2 x1 x2 (ujV g15 g16 g18 x1 x2) (upd mm 0 true) (upd us 0 v) w'') (v := .map (some g15)) (w' := w') (by go_simp) (hJ.val_ 0 (by decide) (by decide) rfl)
          · refine stepJ [] (by kernel_rfl) rfl fun mm us w' hJ hmi hm => ?_
            have o18 := (frame_old2 (us := us) (a := a0) (show (ujT[18]?).join = none from rfl)).trans k18
            generalize frame ujT a0 us = fr at *
            exact val_J (R := fun v w'' => UJ y23 g15 g16 L1 L2 x1 x2 (ujV g15 g16 g18 x1 x2) (upd mm 1 true) (upd us 1 v) w'') (v := .pointer (some ⟨g18, 21, none⟩)) (w' := w') (by go_simp) (hJ.val_ 1 (by decide) (by decide) rfl)
          · refine stepJ [1] (by kernel_rfl) rfl fun mm us w' hJ hmi hm => ?_
            have e1 : us 1 = .pointer (some ⟨g18, 21, none⟩) := hJ.val 1 (hm 1 (by simp)) (by decide) (by decide)
            have v1 := (frame_at2 (us := us) hl (show (ujT[122]?).join = some 1 from rfl)).trans e1
            have hc : w'.cell? ⟨g18, 21, none⟩ = some (.int .u8 x1) := C21.out w' (hJ.fs.row R18.out N18.out)
            generalize frame ujT a0 us = fr at *
            exact val_J (R := fun v w'' => UJ y23 g15 g16 L1 L2 x1 x2 (ujV g15 g16 g18 x1 x2) (upd mm 2 true) (upd us 2 v) w'') (v := .int .u8 x1) (w' := w') (by go_simp) (hJ.val_ 2 (by decide) (by decide) rfl)
          · refine stepJ [] (by kernel_rfl) rfl fun mm us w' hJ hmi hm => ?_
            have o16 := (frame_old2 (us := us) (a := a0) (show (ujT[16]?).join = none from rfl)).trans k16
            generalize frame ujT a0 us = fr at *
            exact val_J (R := fun v w'' => UJ y23 g15 g16 L1 L2 x1 x2 (ujV g15 g16 g18 x1 x2) (upd mm 3 true) (upd us 3 v) w'') (v := .map (some g16)) (w' := w') (by go_simp) (hJ.val_ 3 (by decide) (by decide) rfl)
          · refine stepJ [] (by kernel_rfl) rfl fun mm us w' hJ hmi hm => ?_
            have o18 := (frame_old2 (us := us) (a := a0) (show (ujT[18]?).join = none from rfl)).trans k18
            generalize frame ujT a0 us = fr at *
            exact val_J (R := fun v w'' => UJ y23 g15 g16 L1 L2 x1 x2 (ujV g15 g16 g18 x1 x2) (upd mm 4 true) (upd us 4 v) w'') (v := .pointer (some ⟨g18, 22, none⟩)) (w' := w') (by go_simp) (hJ.val_ 4 (by decide) (by decide) rfl)
          · refine stepJ [4] (by kernel_rfl) rfl fun mm us w' hJ hmi hm => ?_
            have e4 : us 4 = .pointer (some ⟨g18, 22, none⟩) := hJ.val 4 (hm 4 (by simp)) (by decide) (by decide)
            have v4 := (frame_at2 (us := us) hl (show (ujT[125]?).join = some 4 from rfl)).trans e4
            have hc : w'.cell? ⟨g18, 22, none⟩ = some (.int .u8 x2) := C22.out w' (hJ.fs.row R18.out N18.out)
            generalize frame ujT a0 us = fr at *
            exact val_J (R := fun v w'' => UJ y23 g15 g16 L1 L2 x1 x2 (ujV g15 g16 g18 x1 x2) (upd mm 5 true) (upd us 5 v) w'') (v := .int .u8 x2) (w' := w') (by go_simp) (hJ.val_ 5 (by decide) (by decide) rfl)
          · refine stepJ [0, 2] (by kernel_rfl) rfl fun mm us w' hJ hmi hm => ?_
            have e0 : us 0 = .map (some g15) := hJ.val 0 (hm 0 (by simp)) (by decide) (by decide)
            have v0 := (frame_at2 (us := us) hl (show (ujT[121]?).join = some 0 from rfl)).trans e0
            have e2 : us 2 = .int .u8 x1 := hJ.val 2 (hm 2 (by simp)) (by decide) (by decide)
            have v2 := (frame_at2 (us := us) hl (show (ujT[123]?).join = some 2 from rfl)).trans e2
            have m1 := hJ.m1
            rw [hmi] at m1
            generalize frame ujT a0 us = fr at *
            exact putU_J (R := fun v w'' => UJ y23 g15 g16 L1 L2 x1 x2 (ujV g15 g16 g18 x1 x2) (upd mm 6 true) (upd us 6 v) w'') 121 123 rfl v0 v2 m1 Y1.out BX1.out X1.out fun w'' h1 h2 => ⟨hJ.fs.trans (Fs.but h2 (.inl rfl)), h1, hJ.m2.same (h2.block g16 hJ.m2.lt (Ne.symm NG.out)), fun j hj h6 h7 => (upd_other us undef h6).trans (hJ.val j (by rw [← upd_other mm true h6]; exact hj) h6 h7)⟩
          · refine stepJ [3, 5] (by kernel_rfl) rfl fun mm us w' hJ hmi hm => ?_
            have e3 : us 3 = .map (some g16) := hJ.val 3 (hm 3 (by simp)) (by decide) (by decide)
            have v3 := (frame_at2 (us := us) hl (show (ujT[124]?).join = some 3 from rfl)).trans e3
            have e5 : us 5 = .int .u8 x2 := hJ.val 5 (hm 5 (by simp)) (by decide) (by decide)
            have v5 := (frame_at2 (us := us) hl (show (ujT[126]?).join = some 5 from rfl)).trans e5
            have m2 := hJ.m2
            rw [hmi] at m2
            generalize frame ujT a0 us = fr at *
            exact putU_J (R := fun v w'' => UJ y23 g15 g16 L1 L2 x1 x2 (ujV g15 g16 g18 x1 x2) (upd mm 7 true) (upd us 7 v) w'') 124 126 rfl v3 v5 m2 Y2.out BX2.out X2.out fun w'' h1 h2 => ⟨hJ.fs.trans (Fs.but h2 (.inr rfl)), hJ.m1.same (h2.block g15 hJ.m1.lt NG.out), h1, fun j hj h6 h7 => (upd_other us undef h7).trans (hJ.val j (by rw [← upd_other mm true h7]; exact hj) h6 h7)⟩
          · intro mm us y25 hall hJ
            have m1 := hJ.m1
            rw [hall 6 (by decide)] at m1
            have m2 := hJ.m2
            rw [hall 7 (by decide)] at m2
            have M1' := Lib.hid (show SetU y25 g15 M1 by rw [T1.out]; exact m1)
            have M2' := Lib.hid (show SetU y25 g16 M2 by rw [T2.out]; exact m2)
            have E25 := Lib.hid (D23.out.trans hJ.fs)
            subst ha0
            simp only [frame, ujT, fill]
            clear m1 m2 hJ hall hl k15 k16 k18
            generalize us 0 = t_0
            generalize us 1 = t_1
            generalize us 2 = t_2
            generalize us 3 = t_3
            generalize us 4 = t_4
            generalize us 5 = t_5
            go_wp2_with fail
            go_roundw
            case rel => exact ⟨j + 1, by simp, HJ.out, by rw [← HM1.out]; exact M1'.out, by rw [← HM2.out]; exact M2'.out, E25.out⟩
            case measure => have := HJ.out; simp [intOf]; omega
      · skip
        have hde := Lib.hid (show dropErr rg x.num = 0 by unfold dropErr; rw [hhas]; rfl)
        have DRX := Lib.hid (show Calls Try.prog 10 #[.pointer (some ⟨t, 0, none⟩), .int .i64 x.num] y8 (TurnR Tb y8 S0 t (.int .i64 0) (dropR rg x.num)) by have h9 := DRC.out y8 S0 t rg x.num TT8.out HIR.out; rw [hde.out] at h9; exact h9)
        have HI9 := Lib.hid (HIR.out.drop x.num)
        have G6 := Lib.hid (getP_drop HIR.out x.num)
        obtain ⟨rg1, hrg1⟩ : ∃ r, r = dropR rg x.num := ⟨_, rfl⟩
        rw [← hrg1] at DRX HI9 G6
        have HL9 := Lib.hid (show l9 = rg1.last by rw [hrg1]; exact HLR.out)
        have GEX := Lib.hid (fun w' S' (h : Tb w' S' t rg1) => (show Calls Try.prog 19 #[.pointer (some ⟨t, 0, none⟩), .int .i64 x.num] w' (fun e w'' => ∃ q : Ke, KeAt w'' w''.heap.size q ∧ e = .returned (.tuple #[.agg q.V, .int .i64 6]) ∧ Below w'.heap.size w' w'') from (GEC.out w' S' t rg1 x.num h HI9.out).mono fun e w'' ⟨q, h1, h2, h3, h4⟩ => ⟨q, h1, by rw [G6.out] at h3; exact h3, h4⟩))
        clear hrg1 hhas G6
        go_upto_region 11 with (first
          | go_skip
          | (go_at_call 10; (with_reducible refine DRX.out.mono ?_); rintro e y10 ⟨rfl, S9, hT, hS, hF⟩
             have TT10 := Lib.hid hT
             have HS10 := Lib.hid (show ∀ k, S9 k → W.heap.size ≤ k from fun k hk => (hS k hk).elim (HS0.out k) (fun h => Nat.le_trans BB8.out.size h))
             have BB10 := Lib.hid (show Below W.heap.size W y10 from BB8.out.trans (hF.to_below HS0.out BB8.out.size))
             have cn10 : y10.cell? ⟨g8, 1, none⟩ = some (.int .i64 x.num) := by rw [cell_of_row y10 g8 1 _ _ (0, 0) (hF.row R8.out N8.out)]; rfl
             clear hT hS hF))
        clear cn8
        have hzp := HZP.out
        go_upto_region 12 with (first
          | (go_at_call 19; (with_reducible refine (GEX.out _ _ TT10.out).mono ?_); rintro e y11 ⟨q11, hke, rfl, hb⟩
             have BB11 := Lib.hid (show Below W.heap.size W y11 from BB10.out.trans (hb.mono BB10.out.size))
             have TT11 := Lib.hid (KTB.out _ _ _ _ _ TT10.out hb.size (fun k hk => hb.block k (LTK.out _ _ _ _ TT10.out k hk)))
             have IQ := Lib.hid (show (Try.prog.info? 49).map (·.size) = some q11.V.size by rw [Ke.V_size hke]; exact pk_info)
             have ZQ := Lib.hid (show ZV.size = q11.V.size by rw [ZSZ.out, Ke.V_size hke])
             have OQ := Lib.hid (show q11.V.all (·.oneCell') = true from kt_ones)
             clear hke hb)
          | (refine wpList_store_row rfl 49 (.tmp 11) (.tmp 51) rfl y11.heap.size q11.V rfl rfl _ _ (heap_alloc_new _ _) IQ.out ZQ.out OQ.out ?_; rw [World.setRow_alloc_new]))
        clear cn10 hzp
        obtain ⟨y12, hy12⟩ : ∃ y, y = y11.alloc (.cells q11.V 49) := ⟨_, rfl⟩
        rw [← hy12]
        have A12 := Lib.hid (show Below y11.heap.size y11 y12 by rw [hy12]; exact alloc_below _ _)
        have TT12 := Lib.hid (KTB.out _ _ _ _ _ TT11.out A12.out.size (fun k hk => A12.out.block k (LTK.out _ _ _ _ TT11.out k hk)))
        have BB12 := Lib.hid (show Below W.heap.size W y12 from BB11.out.trans (A12.out.mono BB11.out.size))
        generalize y11.heap.size = g11 at *
        clear hy12
        go_upto_region 18 with (first
          | go_skip)
        have TT18 := TT12
        have BB18 := BB12
        generalize y12 = y18 at *
        have HS18 := HS10
        have hmm := @run_makeMap Try.prog
        go_upto_region 19 with fail
        clear hmm
        obtain ⟨y19, hy19⟩ : ∃ y, y = (y18.alloc (.map #[] 0)).alloc (.map #[] 0) := ⟨_, rfl⟩
        obtain ⟨g15, hg15⟩ : ∃ g, g = y18.heap.size := ⟨_, rfl⟩
        obtain ⟨g16, hg16⟩ : ∃ g, g = y18.heap.size + 1 := ⟨_, rfl⟩
        rw [← hy19]
        rw [← hg16]
        rw [← hg15]
        have A19 := Lib.hid (show Below y18.heap.size y18 y19 by rw [hy19]; exact ((Below.refl _ _).alloc (Nat.le_refl _) _).alloc (by simp) _)
        have U15 := Lib.hid (show SetU y19 g15 [] by rw [hy19, hg15]; exact (SetU.made y18).same (Below.block (alloc_below _ _) _ (by simp)))
        have U16 := Lib.hid (show SetU y19 g16 [] by rw [hy19, hg16]; have h9 := SetU.made (y18.alloc (.map #[] 0)); rw [alloc_size] at h9; exact h9)
        have LG16a := Lib.hid U16.out.lt
        have LG15a := Lib.hid U15.out.lt
        have NG := Lib.hid (show g15 ≠ g16 by omega)
        have G15 := Lib.hid (show y18.heap.size ≤ g15 by omega)
        have G16 := Lib.hid (show y18.heap.size ≤ g16 by omega)
        have TT19 := Lib.hid (KTB.out _ _ _ _ _ TT18.out A19.out.size (fun k hk => A19.out.block k (LTK.out _ _ _ _ TT18.out k hk)))
        have BB19 := Lib.hid (show Below W.heap.size W y19 from BB18.out.trans (A19.out.mono BB18.out.size))
        have RB19 := Lib.hid (show y19.heap[bx]? = some (.cells CP 30 (0, 0)) from (BB19.out.block _ (lt_of_row R.out)).trans R.out)
        clear hy19 hg15 hg16
        go_upto_region 20 with (first
          | (refine wpList_load_row rfl 30 (.tmp 3) rfl bx rfl _ _ _ _ RB19.out Try.underlying30 rfl IP.out ?_)
          | (go_at_call 24; (with_reducible refine (FCC.out _ _ _ _ TT19.out HI9.out).mono ?_); rintro e y20 ⟨A5, n5, c5, es, rfl, hnc5, ho5, hl5, hv5, hk5, hb⟩
             have F5 := Lib.hid ho5
             have LN5 := Lib.hid hl5
             have VL5 := Lib.hid hv5
             have KE5 := Lib.hid hk5
             have B20 := Lib.hid hb
             clear hnc5 ho5 hl5 hv5 hk5 hb))
        have L32 := Lib.hid (show n5 ≤ 32 by
          have h1 : (forL rg1 p).length ≤ rg1.l.length := List.length_filter_le _ _
          have h2 := HI9.out.le
          rw [← VL5.out, List.length_map, LN5.out] at h1
          omega)
        obtain ⟨A5', c5', e5, -, -, hr5⟩ := F5.out.form (fun q hq => Ke.L_len (KE5.out q hq).1)
        rw [LN5.out] at e5 hr5
        cases e5
        have ROW5 := Lib.hid hr5
        have ONC := Lib.hid (show (es.map Ke.val).Pairwise (fun x y => x.1.si ≠ y.1.si ∧ x.1.ri ≠ y.1.ri) by rw [VL5.out]; exact HI9.out.once HPO.out)
        have U15 := Lib.hid (U15.out.same (B20.out.block _ U15.out.lt))
        have U16 := Lib.hid (U16.out.same (B20.out.block _ U16.out.lt))
        have LG16 := Lib.hid (show g16 < y19.heap.size from LG16a.out)
        have LG15 := Lib.hid (show g15 < y19.heap.size from LG15a.out)
        clear hr5 RB19
        go_loopw [107] (fun u wr => ∃ j : Nat, u = .int .i64 j ∧ j ≤ n5 ∧ SetU wr g15 ((es.take j).map (·.k.si)) ∧ SetU wr g16 ((es.take j).map (·.k.ri)) ∧ Fs (fun k => k = g15 ∨ k = g16) y20 wr) (fun u _ => n5 + 1 - (intOf u).toNat)
        case atStart => exact ⟨0, rfl, Nat.zero_le _, by rw [List.take_zero]; exact U15.out, by rw [List.take_zero]; exact U16.out, Fs.refl _⟩
        case round =>
          obtain ⟨j, rfl, hj, hu1, hu2, hfs⟩ := hrel
          have FS := Lib.hid hfs
          have UA := Lib.hid hu1
          have UB := Lib.hid hu2
          clear hu1 hu2
          by_cases hlt2 : j < n5
          rotate_left
          · have q7 : ¬ (j : Int) < (n5 : Int) := by omega
            have B26 := Lib.hid (show Below y18.heap.size y18 wr from (A19.out.trans (B20.out.mono A19.out.size)).trans (hfs.to_below (fun k hk => by rcases hk with rfl | rfl; exact G15.out; exact G16.out) (Nat.le_trans A19.out.size B20.out.size)))
            have TT26 := Lib.hid (KTB.out _ _ _ _ _ TT18.out B26.out.size (fun k hk => B26.out.block k (LTK.out _ _ _ _ TT18.out k hk)))
            clear hj hlt2 hfs
            go_wp2_with (first
              | (go_at_call 23; (with_reducible refine (ACC.out _ _ _ _ TT26.out HI9.out).mono ?_); rintro e y27 ⟨A6, n6, c6, es6, rfl, hnc6, ho6, hl6, hv6, hk6, hb⟩
                 have L6 := Lib.hid (show n6 ≤ 32 by have h2 := HI9.out.le; rw [← hv6, List.length_map, hl6] at h2; exact h2)
                 have q9 : ¬ (n6 : Int) > 32 := by have := L6.out; omega
                 have B27 := Lib.hid hb
                 clear hnc6 ho6 hl6 hv6 hk6 hb))
            go_roundw
            case rel => exact ⟨i + 1, S9, rg1, l9, by simp, rfl, HL9.out, HI.out, HI9.out, KTB.out _ _ _ _ _ TT26.out B27.out.size (fun k hk => B27.out.block k (LTK.out _ _ _ _ TT26.out k hk)), HS18.out, BB18.out.trans ((B26.out.trans (B27.out.mono B26.out.size)).mono BB18.out.size)⟩
            case measure => have := HM.out; have := HI.out; simp [intOf]; omega
          have q7 : (j : Int) < (n5 : Int) := by omega
          have wj : IntKind.i64.wrap ((j : Int) + 1) = (j : Int) + 1 := IntWalk.i64_in _ (by have := L32.out; omega)
          obtain ⟨e, hei⟩ : ∃ e, es[j]? = some e := ⟨_, List.getElem?_eq_getElem (by rw [LN5.out]; exact hlt2)⟩
          have me := List.mem_of_getElem? hei
          have ke := (KE5.out e me).1
          obtain ⟨b5, o5, hA5, hlo5, hb5, c5s⟩ := ROW5.out.at_ (by omega)
          subst hA5
          have C1 := Lib.hid (show ∀ q u, e.L[q]? = some u → wr.cell? ⟨b5, o5 + j * 26 + q, none⟩ = some u from fun q u hu => (World.cell?_of_block (w := y20) (a := ⟨b5, o5 + j * 26 + q, none⟩) (hfs.block b5 hb5 (fun hs => by
            rcases hs with hs | hs
            · have := LG15.out; omega
            · have := LG16.out; omega))).trans (c5s j e hei q u hu))
          have IX := Lib.hid (show (Try.prog.info? 49).map (·.size) = some e.L.length by rw [Ke.L_len ke]; exact pk_info)
          have XI := Lib.hid (show (Try.prog.info? 49).map (·.size) = some e.L.toArray.size by rw [List.size_toArray, Ke.L_len ke]; exact pk_info)
          have XZ := Lib.hid (show ZV.size = e.L.toArray.size by rw [ZSZ.out, List.size_toArray, Ke.L_len ke])
          have XO := Lib.hid (show e.L.toArray.all (·.oneCell') = true from kt_ones)
          obtain ⟨y23, hy23⟩ : ∃ y, y = wr.alloc (.cells e.L.toArray 49) := ⟨_, rfl⟩
          obtain ⟨g18, hg18⟩ : ∃ g, g = wr.heap.size := ⟨_, rfl⟩
          have R18 := Lib.hid (show y23.heap[g18]? = some (.cells e.L.toArray 49 (0, 0)) by rw [hy23, hg18]; exact heap_alloc_new _ _)
          have A23 := Lib.hid (show Below wr.heap.size wr y23 by rw [hy23]; exact alloc_below _ _)
          have N18 := Lib.hid (show ¬ (g18 = g15 ∨ g18 = g16) by rw [hg18]; intro hs; rcases hs with hs | hs; have := UA.out.lt; omega; have := UB.out.lt; omega)
          have C21 := Lib.hid (fun (w' : World) (h : w'.heap[g18]? = some (.cells e.L.toArray 49 (0, 0))) => (show w'.cell? ⟨g18, 21, none⟩ = some (.int .u8 e.k.si) from kt_cell h (kt_si ke.ok)))
          have C22 := Lib.hid (fun (w' : World) (h : w'.heap[g18]? = some (.cells e.L.toArray 49 (0, 0))) => (show w'.cell? ⟨g18, 22, none⟩ = some (.int .u8 e.k.ri) from kt_cell h (kt_ri ke.ok)))
          have V1 := Lib.hid (UA.out.same (A23.out.block _ UA.out.lt))
          have V2 := Lib.hid (UB.out.same (A23.out.block _ UB.out.lt))
          have XX := Lib.hid (show ∀ z ∈ es.take j, z.k.si ≠ e.k.si ∧ z.k.ri ≠ e.k.ri from once_at ONC.out hei)
          have X1 := Lib.hid (show ∀ z ∈ (es.take j).map (·.k.si), z ≠ e.k.si from fun z hz => by obtain ⟨y, hy, rfl⟩ := List.mem_map.1 hz; exact (XX.out y hy).1)
          have X2 := Lib.hid (show ∀ z ∈ (es.take j).map (·.k.ri), z ≠ e.k.ri from fun z hz => by obtain ⟨y, hy, rfl⟩ := List.mem_map.1 hz; exact (XX.out y hy).2)
          have Y1 := Lib.hid (show ∀ z ∈ (es.take j).map (·.k.si), Byte z from fun z hz => by obtain ⟨y, hy, rfl⟩ := List.mem_map.1 hz; exact (KE5.out y (List.mem_of_mem_take hy)).1.ok.si)
          have Y2 := Lib.hid (show ∀ z ∈ (es.take j).map (·.k.ri), Byte z from fun z hz => by obtain ⟨y, hy, rfl⟩ := List.mem_map.1 hz; exact (KE5.out y (List.mem_of_mem_take hy)).1.ok.ri)
          have BX1 := Lib.hid ke.ok.si
          have BX2 := Lib.hid ke.ok.ri
          have T1 := Lib.hid (show (es.take (j + 1)).map (·.k.si) = (es.take j).map (·.k.si) ++ [e.k.si] by rw [List.take_add_one, hei, List.map_append]; rfl)
          have T2 := Lib.hid (show (es.take (j + 1)).map (·.k.ri) = (es.take j).map (·.k.ri) ++ [e.k.ri] by rw [List.take_add_one, hei, List.map_append]; rfl)
          have HJ := Lib.hid hlt2
          have D23 := Lib.hid (show Fs (fun k => k = g15 ∨ k = g16) y20 y23 from hfs.trans (Fs.below A23.out))
          have hzp := HZP.out
          obtain ⟨M1, hM1⟩ : ∃ l, l = (es.take (j + 1)).map (·.k.si) := ⟨_, rfl⟩
          obtain ⟨M2, hM2⟩ : ∃ l, l = (es.take (j + 1)).map (·.k.ri) := ⟨_, rfl⟩
          rw [← hM1] at T1
          rw [← hM2] at T2
          have HM1 := Lib.hid hM1
          have HM2 := Lib.hid hM2
          clear hM1 hM2
          generalize (es.take j).map (·.k.si) = L1 at *
          generalize (es.take j).map (·.k.ri) = L2 at *
          generalize e.k.si = x1 at *
          generalize e.k.ri = x2 at *
          generalize e.L = XC at *
          clear hei me ke hlo5 hb5 c5s hfs hlt2 hj XX UA UB
          go_upto_region 22 with (first
            | (refine pkC.wpList_load_partG (by kernel_rfl) 49 (.tmp 109) rfl b5 (o5 + j * 26) (by kernel_rfl) XC _ C1.out Try.underlying49 rfl IX.out ?_)
            | (refine wpList_store_row rfl 49 (.tmp 18) (.tmp 110) rfl wr.heap.size XC.toArray rfl rfl _ _ (heap_alloc_new _ _) XI.out XZ.out XO.out ?_; rw [World.setRow_alloc_new]))
          rw [← hy23]
          rw [← hg18]
          clear hy23 hg18 hzp
          have ca := C21.out y23 R18.out
          have cb := C22.out y23 R18.out
          go_upto_region 24 with (first
            | go_skip
            | (refine wpList_lookUG (by kernel_rfl) (.tmp 111) (.tmp 113) rfl g15 x1 rfl rfl _ V1.out Y1.out BX1.out X1.out ?_)
            | (refine wpList_lookUG (by kernel_rfl) (.tmp 116) (.tmp 118) rfl g16 x2 rfl rfl _ V2.out Y2.out BX2.out X2.out ?_))
          clear ca cb
          refine with_act fun a0 ha0 => ?_
          have hl : ujT.length = a0.tmps.size := by rw [ha0]; rfl
          have k15 : a0.tmps[15]?.getD undef = .map (some g15) := by rw [ha0]; rfl
          have k16 : a0.tmps[16]?.getD undef = .map (some g16) := by rw [ha0]; rfl
          have k18 : a0.tmps[18]?.getD undef = .pointer (some ⟨g18, 0, none⟩) := by rw [ha0]; rfl
          refine wp_region_J (by kernel_rfl) ujT (by kernel_rfl) (by kernel_rfl) hl (fun i => a0.tmps[i + 121]?.getD undef) (by rw [ha0]; rfl) (UJ y23 g15 g16 L1 L2 x1 x2 (ujV g15 g16 g18 x1 x2)) ⟨Fs.below (Below.refl _ _).drew, V1.out.same rfl, V2.out.same rfl, fun i h => by cases h⟩ ⟨?_, ?_, ?_, ?_, ?_, ?_, ?_, ?_, trivial⟩ ?_
          · refine stepJ [] (by kernel_rfl) rfl fun mm us w' hJ hmi hm => ?_
            have o15 := (frame_old2 (us := us) (a := a0) (show (ujT[15]?).join = none from rfl)).trans k15
            generalize frame ujT a0 us = fr at *
            exact val_J (R := fun v w'' => UJ y23 g15 g16 L1 L2 x1 x2 (ujV g15 g16 g18 x1 x2) (upd mm 0 true) (upd us 0 v) w'') (v := .map (some g15)) (w' := w') (by go_simp) (hJ.val_ 0 (by decide) (by decide) rfl)
          · refine stepJ [] (by kernel_rfl) rfl fun mm us w' hJ hmi hm => ?_
            have o18 := (frame_old2 (us := us) (a := a0) (show (ujT[18]?).join = none from rfl)).trans k18
            generalize frame ujT a0 us = fr at *
            exact val_J (R := fun v w'' => UJ y23 g15 g16 L1 L2 x1 x2 (ujV g15 g16 g18 x1 x2) (upd mm 1 true) (upd us 1 v) w'') (v := .pointer (some ⟨g18, 21, none⟩)) (w' := w') (by go_simp) (hJ.val_ 1 (by decide) (by decide) rfl)
          · refine stepJ [1] (by kernel_rfl) rfl fun mm us w' hJ hmi hm => ?_
            have e1 : us 1 = .pointer (some ⟨g18, 21, none⟩) := hJ.val 1 (hm 1 (by simp)) (by decide) (by decide)
            have v1 := (frame_at2 (us := us) hl (show (ujT[122]?).join = some 1 from rfl)).trans e1
            have hc : w'.cell? ⟨g18, 21, none⟩ = some (.int .u8 x1) := C21.out w' (hJ.fs.row R18.out N18.out)
            generalize frame ujT a0 us = fr at *
            exact val_J (R := fun v w'' => UJ y23 g15 g16 L1 L2 x1 x2 (ujV g15 g16 g18 x1 x2) (upd mm 2 true) (upd us 2 v) w'') (v := .int .u8 x1) (w' := w') (by go_simp) (hJ.val_ 2 (by decide) (by decide) rfl)
          · refine stepJ [] (by kernel_rfl) rfl fun mm us w' hJ hmi hm => ?_
            have o16 := (frame_old2 (us := us) (a := a0) (show (ujT[16]?).join = none from rfl)).trans k16
            generalize frame ujT a0 us = fr at *
            exact val_J (R := fun v w'' => UJ y23 g15 g16 L1 L2 x1 x2 (ujV g15 g16 g18 x1 x2) (upd mm 3 true) (upd us 3 v) w'') (v := .map (some g16)) (w' := w') (by go_simp) (hJ.val_ 3 (by decide) (by decide) rfl)
          · refine stepJ [] (by kernel_rfl) rfl fun mm us w' hJ hmi hm => ?_
            have o18 := (frame_old2 (us := us) (a := a0) (show (ujT[18]?).join = none from rfl)).trans k18
            generalize frame ujT a0 us = fr at *
            exact val_J (R := fun v w'' => UJ y23 g15 g16 L1 L2 x1 x2 (ujV g15 g16 g18 x1 x2) (upd mm 4 true) (upd us 4 v) w'') (v := .pointer (some ⟨g18, 22, none⟩)) (w' := w') (by go_simp) (hJ.val_ 4 (by decide) (by decide) rfl)
          · refine stepJ [4] (by kernel_rfl) rfl fun mm us w' hJ hmi hm => ?_
            have e4 : us 4 = .pointer (some ⟨g18, 22, none⟩) := hJ.val 4 (hm 4 (by simp)) (by decide) (by decide)
            have v4 := (frame_at2 (us := us) hl (show (ujT[125]?).join = some 4 from rfl)).trans e4
            have hc : w'.cell? ⟨g18, 22, none⟩ = some (.int .u8 x2) := C22.out w' (hJ.fs.row R18.out N18.out)
            generalize frame ujT a0 us = fr at *
            exact val_J (R := fun v w'' => UJ y23 g15 g16 L1 L2 x1 x2 (ujV g15 g16 g18 x1 x2) (upd mm 5 true) (upd us 5 v) w'') (v := .int .u8 x2) (w' := w') (by go_simp) (hJ.val_ 5 (by decide) (by decide) rfl)
          · refine stepJ [0, 2] (by kernel_rfl) rfl fun mm us w' hJ hmi hm => ?_
            have e0 : us 0 = .map (some g15) := hJ.val 0 (hm 0 (by simp)) (by decide) (by decide)
            have v0 := (frame_at2 (us := us) hl (show (ujT[121]?).join = some 0 from rfl)).trans e0
            have e2 : us 2 = .int .u8 x1 := hJ.val 2 (hm 2 (by simp)) (by decide) (by decide)
            have v2 := (frame_at2 (us := us) hl (show (ujT[123]?).join = some 2 from rfl)).trans e2
            have m1 := hJ.m1
            rw [hmi] at m1
            generalize frame ujT a0 us = fr at *
            exact putU_J (R := fun v w'' => UJ y23 g15 g16 L1 L2 x1 x2 (ujV g15 g16 g18 x1 x2) (upd mm 6 true) (upd us 6 v) w'') 121 123 rfl v0 v2 m1 Y1.out BX1.out X1.out fun w'' h1 h2 => ⟨hJ.fs.trans (Fs.but h2 (.inl rfl)), h1, hJ.m2.same (h2.block g16 hJ.m2.lt (Ne.symm NG.out)), fun j hj h6 h7 => (upd_other us undef h6).trans (hJ.val j (by rw [← upd_other mm true h6]; exact hj) h6 h7)⟩
          · refine stepJ [3, 5] (by kernel_rfl) rfl fun mm us w' hJ hmi hm => ?_
            have e3 : us 3 = .map (some g16) := hJ.val 3 (hm 3 (by simp)) (by decide) (by decide)
            have v3 := (frame_at2 (us := us) hl (show (ujT[124]?).join = some 3 from rfl)).trans e3
            have e5 : us 5 = .int .u8 x2 := hJ.val 5 (hm 5 (by simp)) (by decide) (by decide)
            have v5 := (frame_at2 (us := us) hl (show (ujT[126]?).join = some 5 from rfl)).trans e5
            have m2 := hJ.m2
            rw [hmi] at m2
            generalize frame ujT a0 us = fr at *
            exact putU_J (R := fun v w'' => UJ y23 g15 g16 L1 L2 x1 x2 (ujV g15 g16 g18 x1 x2) (upd mm 7 true) (upd us 7 v) w'') 124 126 rfl v3 v5 m2 Y2.out BX2.out X2.out fun w'' h1 h2 => ⟨hJ.fs.trans (Fs.but h2 (.inr rfl)), hJ.m1.same (h2.block g15 hJ.m1.lt NG.out), h1, fun j hj h6 h7 => (upd_other us undef h7).trans (hJ.val j (by rw [← upd_other mm true h7]; exact hj) h6 h7)⟩
          · intro mm us y25 hall hJ
            have m1 := hJ.m1
            rw [hall 6 (by decide)] at m1
            have m2 := hJ.m2
            rw [hall 7 (by decide)] at m2
            have M1' := Lib.hid (show SetU y25 g15 M1 by rw [T1.out]; exact m1)
            have M2' := Lib.hid (show SetU y25 g16 M2 by rw [T2.out]; exact m2)
            have E25 := Lib.hid (D23.out.trans hJ.fs)
            subst ha0
            simp only [frame, ujT, fill]
            clear m1 m2 hJ hall hl k15 k16 k18
            generalize us 0 = t_0
            generalize us 1 = t_1
            generalize us 2 = t_2
            generalize us 3 = t_3
            generalize us 4 = t_4
            generalize us 5 = t_5
            go_wp2_with fail
            go_roundw
            case rel => exact ⟨j + 1, by simp, HJ.out, by rw [← HM1.out]; exact M1'.out, by rw [← HM2.out]; exact M2'.out, E25.out⟩
            case measure => have := HJ.out; simp [intOf]; omega
end Go.Proofs.Ytflfkhcbkhdahaa.mkC
