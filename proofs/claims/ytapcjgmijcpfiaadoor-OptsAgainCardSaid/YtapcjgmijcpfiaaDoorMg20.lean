/-
  5 texts of a proof, joined.
-/
import Derived.Test.YtapcjgmijcpfiaaDoorMg19
import Derived.Test.YtapcjgmijcpfiaaDoorMg14
import Derived.Test.YtapcjgmijcpfiaaDoorMg16

/-
  Options are read: the program's.
-/
namespace Go.Proofs.YtapcjgmijcpfiaaDoor.opC
open Go.ChangeShapes Go.WideShapes Go.ChangeAt Go.RowKit
open Go.Proofs.YtapcjgmijcpfiaaDoor.memC Go.Proofs.YtapcjgmijcpfiaaDoor.genC Go.Proofs.YtapcjgmijcpfiaaDoor.butC Go.Proofs.YtapcjgmijcpfiaaDoor.freeC Go.Proofs.YtapcjgmijcpfiaaDoor.adC
open Go.Proofs.YtapcjgmijcpfiaaDoor.octC (Fr Rd RdD stopped getZ)
set_option linter.unusedVariables false
def ReadR (w : World) (p : Nat) (P : Int × Opt) (e : Ending) (w' : World) : Prop :=
  (P.1 = 4 ∧ e = stopped ∧ Fr (· = p) w w') ∨ (P.1 ≠ 4 ∧ ∃ A n c, e = .returned (.tuple #[.agg (optV P.2 A n c), .int .i64 P.1]) ∧ P.2.sk.length = n ∧ OwnP w' w.heap.size (.slice A n c) P.2.sk ∧ Fr (· = p) w w')
theorem rd_ofD {w : World} {p B : Nat} {bs : List Int} (h : RdD w p B bs) : Rd w p bs := by
  obtain ⟨A, n, c, h1, h2, h3, N, h4, h5, h6⟩ := h
  exact ⟨A, n, c, h1, h2, h3, N.more h6, h4, h5⟩
theorem rdD_of {w : World} {p : Nat} {bs : List Int} (h : Rd w p bs) : RdD w p p bs := by
  obtain ⟨A, n, c, h1, h2, h3, N, h4, h5⟩ := h
  exact ⟨A, n, c, h1, h2, h3, N, h4, h5, Nat.le_refl _⟩
theorem rdD_fr {S : Nat → Prop} {w w' : World} {p B : Nat} {bs : List Int} (h : RdD w p B bs) (F : Fr S w w') (hS : ∀ k, S k → B ≤ k ∧ k ≠ p) : RdD w' p B bs :=
  h.keep F.size (F.block _ h.lt fun e => (hS _ e).2 rfl) fun k hk => F.block _ (by have := h.lt; have := h.le; omega) fun e => by have := (hS _ e).1; omega
theorem St.notp {w0 w : World} {g p : Nat} {o : Opt} {A : Option Addr} {n c : Nat} (h : St w g o A n c) (hp : p < g) : ∀ k, (Value.slice A n c).ownBlock = some k → ¬ k = p := fun k hk e => by
  have := (h.own.blk k hk).1
  omega
theorem fr_less {S T : Nat → Prop} {w0 w w' : World} (h : Fr S w0 w) (F : Fr T w w') (hT : ∀ k, k < w0.heap.size → T k → S k) : Fr S w0 w' :=
  ⟨F.os.trans h.os, F.tape.trans h.tape, F.output.trans h.output, Nat.le_trans h.size F.size, fun k hk hn => (F.block k (Nat.lt_of_lt_of_le hk h.size) fun e => hn (hT k hk e)).trans (h.block k hk hn)⟩
theorem fr_row {S : Nat → Prop} {w w' : World} (h : Fr S w w') {r : Nat} (hr : w.heap.size ≤ r) (cs : Array Value) : Fr S w (w'.setRow r cs) :=
  ⟨h.os, h.tape, h.output, by simpa using h.size, fun k hk hn => by rw [setRow_other _ _ _ _ (by omega)]; exact h.block k hk hn⟩
set_option maxRecDepth 100000 in
set_option maxHeartbeats 4000000 in
theorem read_any (p B : Nat) (bs : List Int) (w : World) (hR : RdD w p B bs) (hm : bs.length ≤ 40) (hy : ∀ x ∈ bs, Byte x) : Calls Tryd.prog 34 #[.pointer (some ⟨p, 0, none⟩)] w (ReadR w p (psA bs zOpt)) := by
  have hzv := zeroOpt
  obtain ⟨W1, hW1⟩ : ∃ W, W = w.alloc (.cells (optV zOpt none 0 0) 27) := ⟨_, rfl⟩
  obtain ⟨W, hW⟩ : ∃ W, W = W1.alloc (.cells (optV zOpt none 0 0) 27) := ⟨_, rfl⟩
  have e1 : W1.heap.size = w.heap.size + 1 := by rw [hW1]; exact alloc_size _ _
  have BW1 : Below w.heap.size w W1 := by rw [hW1]; exact alloc_below _ _
  have BW2 : Below W1.heap.size W1 W := by rw [hW]; exact alloc_below _ _
  have BW : Below w.heap.size w W := BW1.trans (BW2.mono BW1.size)
  obtain ⟨Z, hZ⟩ : ∃ Z, Z = optV zOpt none 0 0 := ⟨_, rfl⟩
  have RC := Lib.hid (show W.heap[w.heap.size]? = some (.cells Z 27 (0, 0)) by rw [BW2.block _ (by omega), hW1, hZ]; exact heap_alloc_new _ _)
  have S0 := Lib.hid (show St W (w.heap.size + 1) zOpt none 0 0 from ⟨by unfold OptAt; rw [hW, ← e1]; exact heap_alloc_new _ _, rfl, rfl, OwnP.nil _ _, fun _ => ⟨rfl, rfl, rfl⟩⟩)
  have R0 := Lib.hid (hR.below BW)
  have F0 := Lib.hid (Fr.below (S := (· = p)) BW)
  have HPW := Lib.hid (show p < w.heap.size from hR.lt)
  have HBP := Lib.hid hR.le
  have HM := Lib.hid hm
  have HY := Lib.hid hy
  have IZ := Lib.hid (optC zOpt_ok.lm none 0 0).info
  have OZ := Lib.hid (opt_one zOpt none 0 0)
  have EB := Lib.hid zOpt_built
  have SZ := Lib.hid (optC zOpt_ok.lm none 0 0).size
  have HZ := Lib.hid hZ
  rw [← hZ] at IZ OZ EB SZ hzv hW hW1
  obtain ⟨P, hP⟩ : ∃ P, P = psA bs zOpt := ⟨_, rfl⟩
  rw [← hP]
  have EP := Lib.hid hP.symm
  clear hR hm hy e1 BW1 BW2 BW hZ hP
  go_enter Tryd.func34, Tryd.ntmps34
  go_upto_region 1 with fail
  have HS1 := Lib.hid (show W1.heap.size = w.heap.size + 1 by rw [hW1]; exact alloc_size _ _)
  rw [← hW1]
  clear hW1
  go_upto_region 2 with fail
  rw [← hW, HS1.out]
  clear hW HS1 hzv
  go_loopw [] (fun wr => ∃ (b : List Int) (o : Opt) (A : Option Addr) (n c : Nat), RdD wr p B b ∧ St wr (w.heap.size + 1) o A n c ∧ wr.heap[w.heap.size]? = some (.cells Z 27 (0, 0)) ∧ psA b o = P ∧ (∀ x ∈ b, Byte x) ∧ b.length ≤ 40 ∧ Fr (· = p) w wr) (fun wr => lenOfV ((wr.cell? ⟨p, 0, none⟩).getD undef))
  case atStart => exact ⟨bs, zOpt, none, 0, 0, R0.out, S0.out, RC.out, EP.out, HY.out, HM.out, F0.out⟩
  case round =>
    obtain ⟨b, o, A, n, c, r1, s1, z1, ep, y1, m1, f1⟩ := hrel
    have RR := Lib.hid r1
    have SS := Lib.hid s1
    have ZZ := Lib.hid z1
    have PP := Lib.hid ep
    have FF := Lib.hid f1
    have LF := Lib.hid (left_any r1)
    have NP := Lib.hid (St.notp (w0 := w) s1 (show p < w.heap.size + 1 by have := HPW.out; omega))
    rcases b with _ | ⟨k, r⟩
    · have LF := Lib.hid (show Calls Tryd.prog 39 #[.pointer (some ⟨p, 0, none⟩)] wr fun e w' => e = .returned (.int .i64 0) ∧ w' = wr from LF.out)
      have EQ := Lib.hid (show P = (0, o) by rw [← PP.out]; rfl)
      clear r1 s1 z1 ep y1 m1 f1
      have MO := Lib.hid SS.out.mac
      have RO := Lib.hid (show wr.heap[w.heap.size + 1]? = some (.cells (optV o A n c) 27 (0, 0)) from SS.out.row)
      have IOX := Lib.hid (optC MO.out A n c).info
      have OO := Lib.hid (opt_one o A n c)
      have SO := Lib.hid (show Z.size = (optV o A n c).size by rw [SZ.out, (optC MO.out A n c).size])
      generalize hCo : optV o A n c = Co at *
      have ECo := Lib.hid hCo
      clear hCo
      go_wp2_with (first
        | (go_at_call 39; refine LF.out.mono ?_; rintro e w2 ⟨rfl, hw⟩; obtain rfl := hw.symm)
        | (refine wpList_load_row rfl 27 (.tmp 4) rfl (w.heap.size + 1) rfl _ _ _ _ RO.out Tryd.underlying27 rfl IOX.out ?_)
        | (refine wpList_store_row rfl 27 (.tmp 2) (.tmp 33) rfl w.heap.size Co rfl rfl _ _ ZZ.out IOX.out SO.out OO.out ?_))
      refine bodyPost_ret (v := .tuple #[.agg Co, .int .i64 0]) (adC.results_cell_tmp Tryd.results34 _ _ w.heap.size _ _ _ _ _ (by rfl) (setRow_heap _ _ _ _ _ _ ZZ.out) Tryd.underlying27 rfl IOX.out (by rfl)) rfl ?_
      refine .inr ⟨by rw [EQ.out]; show (0 : Int) ≠ 4; decide, A, n, c, by rw [EQ.out, ECo.out], by rw [EQ.out]; exact SS.out.len, ?_, fr_row FF.out (Nat.le_refl _) _⟩
      rw [EQ.out]
      exact OwnP.less (OwnP.keep (ps := o.sk) SS.out.own fun j h1 h2 => setRow_other _ _ _ _ (by omega)) (by omega)
    have hyk : Byte k := y1 k (List.mem_cons_self ..)
    have hyr : ∀ x ∈ r, Byte x := fun x hx => y1 x (List.mem_cons_of_mem _ hx)
    have hlr : r.length + 1 ≤ 40 := by simpa using m1
    have LF := Lib.hid (show Calls Tryd.prog 39 #[.pointer (some ⟨p, 0, none⟩)] wr fun e w' => e = .returned (.int .i64 ((r.length + 1 : Nat) : Int)) ∧ w' = wr from LF.out)
    have O1 := Lib.hid (show Calls Tryd.prog 40 #[.pointer (some ⟨p, 0, none⟩)] wr fun e w' => e = .returned (.int .u8 k) ∧ RdD w' p B r ∧ Fr (· = p) wr w' from octet_ok p B (k :: r) wr r1 (by simp) (by simp; omega) y1)
    obtain ⟨l, hl⟩ : ∃ l, l = r.length := ⟨_, rfl⟩
    have HL := Lib.hid hl
    rw [← hl] at LF hlr
    have q1 : (0 : Int) < ((l + 1 : Nat) : Int) := by omega
    have q2 : 0 < l + 1 := by omega
    have HLR := Lib.hid hlr
    have HYR := Lib.hid hyr
    have HYK := Lib.hid hyk
    clear r1 s1 z1 ep y1 m1 f1 hl hlr hyr hyk
    go_upto_region 4 with (first
      | (go_at_call 39; refine LF.out.mono ?_; rintro e w2 ⟨rfl, hw⟩; obtain rfl := hw.symm)
      | (go_at_call 40; refine O1.out.mono ?_; rintro e w2 ⟨rfl, r2, f2⟩
         have R2 := Lib.hid r2
         have F2 := Lib.hid (fr_less FF.out f2 (fun k _ h => h))
         have S2 := Lib.hid (SS.out.fr f2 (show ¬ w.heap.size + 1 = p by have := HPW.out; omega) NP.out)
         have Z2 := Lib.hid (f2.row ZZ.out (show ¬ w.heap.size = p by have := HPW.out; omega))
         clear r2 f2))
    clear q1 q2 LF O1
    by_cases h0 : k = 0
    · subst h0
      have EQ := Lib.hid (show P = (0, o) by rw [← PP.out]; rfl)
      have MO := Lib.hid S2.out.mac
      have RO := Lib.hid (show w2.heap[w.heap.size + 1]? = some (.cells (optV o A n c) 27 (0, 0)) from S2.out.row)
      have IOX := Lib.hid (optC MO.out A n c).info
      have OO := Lib.hid (opt_one o A n c)
      have SO := Lib.hid (show Z.size = (optV o A n c).size by rw [SZ.out, (optC MO.out A n c).size])
      generalize hCo : optV o A n c = Co at *
      have ECo := Lib.hid hCo
      clear hCo
      go_wp2_with (first
        | (refine wpList_load_row rfl 27 (.tmp 4) rfl (w.heap.size + 1) rfl _ _ _ _ RO.out Tryd.underlying27 rfl IOX.out ?_)
        | (refine wpList_store_row rfl 27 (.tmp 2) (.tmp 33) rfl w.heap.size Co rfl rfl _ _ Z2.out IOX.out SO.out OO.out ?_))
      refine bodyPost_ret (v := .tuple #[.agg Co, .int .i64 0]) (adC.results_cell_tmp Tryd.results34 _ _ w.heap.size _ _ _ _ _ (by rfl) (setRow_heap _ _ _ _ _ _ Z2.out) Tryd.underlying27 rfl IOX.out (by rfl)) rfl ?_
      refine .inr ⟨by rw [EQ.out]; show (0 : Int) ≠ 4; decide, A, n, c, by rw [EQ.out, ECo.out], by rw [EQ.out]; exact S2.out.len, ?_, fr_row F2.out (Nat.le_refl _) _⟩
      rw [EQ.out]
      exact OwnP.less (OwnP.keep (ps := o.sk) S2.out.own fun j h1 h2 => setRow_other _ _ _ _ (by omega)) (by omega)
    have g0 : (k == 0) = false := beq_eq_false_iff_ne.2 h0
    by_cases h1 : k = 1
    · subst h1
      have EQ := Lib.hid (show psA r o = P by rw [← PP.out]; rfl)
      clear h0
      go_wp2_with fail
      go_roundw
      case rel => exact ⟨r, o, A, n, c, R2.out, S2.out, Z2.out, EQ.out, HYR.out, by have := HL.out; have := HLR.out; omega, F2.out⟩
      case measure =>
        obtain ⟨Aa, na, ca, ha, _, _, Na, _⟩ := R2.out
        obtain ⟨Ab, nb, cb, hb, _, _, Nb, _⟩ := RR.out
        have la := Na.len
        have lb := Nb.len
        rw [List.length_cons] at lb
        rw [ha, hb]
        simp only [Option.getD_some, lenOfV]
        omega
    have g1 : (k == 1) = false := beq_eq_false_iff_ne.2 h1
    have NP2 := Lib.hid (St.notp (w0 := w) S2.out (show p < w.heap.size + 1 by have := HPW.out; omega))
    rcases r with _ | ⟨d, t⟩
    · have OS := Lib.hid (octet_stop p [] w2 (rd_ofD R2.out) (by simp))
      have EQ := Lib.hid (show P = (4, zOpt) by rw [← PP.out]; exact psA_one h0 h1 o)
      clear h0 h1
      go_wp2_with (first
        | (go_at_call 40; refine OS.out.mono ?_; rintro e w3 ⟨he, rfl⟩; rw [octC.stopped_eq] at he; subst he))
      exact ⟨rfl, .inl ⟨by rw [EQ.out], rfl, F2.out⟩⟩
    have hyd : Byte d := HYR.out d (List.mem_cons_self ..)
    have hyt : ∀ x ∈ t, Byte x := fun x hx => HYR.out x (List.mem_cons_of_mem _ hx)
    have hlt : t.length + 2 ≤ 40 := by have h1 := HL.out; have h2 := HLR.out; rw [List.length_cons] at h1; omega
    have O2 := Lib.hid (show Calls Tryd.prog 40 #[.pointer (some ⟨p, 0, none⟩)] w2 fun e w' => e = .returned (.int .u8 d) ∧ RdD w' p B t ∧ Fr (· = p) w2 w' from octet_ok p B (d :: t) w2 R2.out (by simp) (by simp; omega) HYR.out)
    have PM := Lib.hid (show P = if d < 2 then (3, zOpt) else if t.length < d.toNat - 2 then (4, zOpt) else if takeE o k (t.take (d.toNat - 2)) = 0 then psA (t.drop (d.toNat - 2)) (takeO o k (t.take (d.toNat - 2))) else (takeE o k (t.take (d.toNat - 2)), zOpt) by rw [← PP.out]; exact psA_more h0 h1 o)
    unfold Byte at hyd
    have wd : IntKind.i64.wrap d = d := IntWalk.i64_in _ (by omega)
    have HYT := Lib.hid hyt
    have HLT := Lib.hid hlt
    have LB0 := Lib.hid (show (k :: d :: t).length = t.length + 2 from rfl)
    have HYD := Lib.hid hyd
    clear h0 h1 hyt hlt hyd
    go_upto_region 7 with (first
      | (go_at_call 40; refine O2.out.mono ?_; rintro e w3 ⟨rfl, r3, f3⟩
         have R3 := Lib.hid r3
         have F3 := Lib.hid (fr_less F2.out f3 (fun k _ h => h))
         have S3 := Lib.hid (S2.out.fr f3 (show ¬ w.heap.size + 1 = p by have := HPW.out; omega) NP2.out)
         have Z3 := Lib.hid (f3.row Z2.out (show ¬ w.heap.size = p by have := HPW.out; omega))
         clear r3 f3))
    clear wd O2
    by_cases hd2 : d < 2
    · have EQ := Lib.hid (show P = (3, zOpt) by rw [PM.out, if_pos hd2])
      have E3 := Lib.hid (show (3 : Int) ≠ 4 by decide)
      go_wp2_with (first
        | (with_reducible refine at_build 27 ?_; refine wpList_runG (by kernel_rfl) _ (built_run (T := 27) rfl EB.out) ?_)
        | (refine wpList_store_row rfl 27 (.tmp 2) (.tmp 22) rfl w.heap.size Z rfl rfl _ _ Z3.out IZ.out rfl OZ.out ?_))
      refine bodyPost_ret (v := .tuple #[.agg Z, .int .i64 3]) (adC.results_cell_tmp Tryd.results34 _ _ w.heap.size _ _ _ _ _ (by rfl) (setRow_heap _ _ _ _ _ _ Z3.out) Tryd.underlying27 rfl IZ.out (by rfl)) rfl ?_
      refine .inr ⟨by rw [EQ.out]; exact E3.out, none, 0, 0, by rw [EQ.out, HZ.out], by rw [EQ.out]; rfl, ?_, fr_row F3.out (Nat.le_refl _) _⟩
      rw [EQ.out]
      exact OwnP.nil _ _
    rw [if_neg hd2] at PM
    obtain ⟨s, hs⟩ : ∃ s, s = d.toNat - 2 := ⟨_, rfl⟩
    rw [← hs] at PM
    have hsz : (s : Int) = d - 2 := by have := HYD.out; omega
    have wd2 : IntKind.i64.wrap (d - 2) = d - 2 := IntWalk.i64_in _ (by have := HYD.out; omega)
    have HSZ := Lib.hid hsz
    by_cases hts : t.length < s
    · have SB := Lib.hid (octC.sub_stop p t s (d - 2) w3 (rd_ofD R3.out) hsz hts)
      have EQ := Lib.hid (show P = (4, zOpt) by rw [PM.out, if_pos hts])
      clear hs hsz hts
      go_wp2_with (first
        | (go_at_call 42; refine SB.out.mono ?_; rintro e w4 ⟨he, rfl⟩; rw [octC.stopped_eq] at he; subst he))
      exact ⟨rfl, .inl ⟨by rw [EQ.out], rfl, F3.out⟩⟩
    rw [if_neg hts] at PM
    have SB := Lib.hid (octC.sub_ok p B t s (d - 2) w3 R3.out hsz (by omega))
    have NP3 := Lib.hid (St.notp (w0 := w) S3.out (show p < w.heap.size + 1 by have := HPW.out; omega))
    unfold octC.SubR at SB
    have H3W := Lib.hid (show w.heap.size + 1 < w3.heap.size from S3.out.lt)
    have TKA := Lib.hid (fun (w' : World) (q : Nat) (S : St w' (w.heap.size + 1) o A n c) (R : RdD w' q B (t.take s)) (hq : w3.heap.size ≤ q) => take_any k S R (by have := H3W.out; omega) (by have := HPW.out; have := HBP.out; omega) (fun j hj => by
      have := (S3.out.own.blk j hj).2
      omega) (fun x hx => HYT.out x (List.mem_of_mem_take hx)) (by rw [List.length_take]; have := HLT.out; omega) HYK.out)
    unfold TakeR at TKA
    obtain ⟨te, hte⟩ : ∃ te, te = takeE o k (t.take s) := ⟨_, rfl⟩
    have HTE := Lib.hid hte
    have T7 := Lib.hid (show te = 0 ∨ te = 3 ∨ te = 7 by
      rw [hte]; unfold takeE
      split
      · exact .inl rfl
      · split
        · exact .inr (.inl rfl)
        · split
          · exact .inr (.inr rfl)
          · exact .inl rfl)
    rw [← hte] at TKA PM
    have HTS := Lib.hid (show s ≤ t.length by omega)
    clear hs hsz hts hte
    go_upto_region 10 with (first
      | (go_at_call 42; refine SB.out.mono ?_; rintro e w4 ⟨q, rfl, hq, rq, r4, f4⟩
         have S4 := Lib.hid (S3.out.fr f4 (show ¬ w.heap.size + 1 = p by have := HPW.out; omega) NP3.out)
         have Z4 := Lib.hid (f4.row Z3.out (show ¬ w.heap.size = p by have := HPW.out; omega))
         have R4 := Lib.hid r4
         have F4 := Lib.hid (fr_less F3.out f4 (fun k _ h => h))
         have HQ := Lib.hid hq
         have TK := Lib.hid (TKA.out w4 q S4.out rq hq)
         clear hq rq r4 f4)
      | (go_at_call 41; refine TK.out.mono ?_; rintro e w5 ⟨rfl, f5, s5⟩
         have Z5 := Lib.hid (f5.row Z4.out (show ¬ (w.heap.size = q ∨ w.heap.size = w.heap.size + 1) by have := HQ.out; have := H3W.out; omega))
         have R5 := Lib.hid (rdD_fr R4.out f5 (fun j hj => by have := HQ.out; have := H3W.out; have := HPW.out; have := HBP.out; have := hj; omega))
         have F5 := Lib.hid (fr_less F4.out f5 (fun j h1 h2 => by have := HQ.out; have := H3W.out; exfalso; omega))
         have S5 := Lib.hid s5
         clear f5 s5))
    clear wd2 hd2
    by_cases ht0 : te = 0
    · subst ht0
      rw [if_pos rfl] at PM
      obtain ⟨A5, n5, c5, s5⟩ := S5.out rfl
      have S6 := Lib.hid s5
      clear s5
      go_wp2_with fail
      go_roundw
      case rel => exact ⟨t.drop s, takeO o k (t.take s), A5, n5, c5, R5.out, S6.out, Z5.out, PM.out.symm, fun x hx => HYT.out x (List.mem_of_mem_drop hx), by rw [List.length_drop]; have := HLT.out; omega, F5.out⟩
      case measure =>
        obtain ⟨Aa, na, ca, ha, _, _, Na, _⟩ := R5.out
        obtain ⟨Ab, nb, cb, hb, _, _, Nb, _⟩ := RR.out
        have la := Na.len
        have lb := Nb.len
        have l0 := LB0.out
        rw [List.length_drop] at la
        rw [l0] at lb
        rw [ha, hb]
        simp only [Option.getD_some, lenOfV]
        omega
    · have g7 : (te != 0) = true := by simpa using ht0
      rw [if_neg ht0] at PM
      have EQ := PM
      have E3 := Lib.hid (show te ≠ 4 by have := T7.out; omega)
      go_wp2_with (first
        | (with_reducible refine at_build 27 ?_; refine wpList_runG (by kernel_rfl) _ (built_run (T := 27) rfl EB.out) ?_)
        | (refine wpList_store_row rfl 27 (.tmp 2) (.tmp 31) rfl w.heap.size Z rfl rfl _ _ Z5.out IZ.out rfl OZ.out ?_))
      refine bodyPost_ret (v := .tuple #[.agg Z, .int .i64 te]) (adC.results_cell_tmp Tryd.results34 _ _ w.heap.size _ _ _ _ _ (by rfl) (setRow_heap _ _ _ _ _ _ Z5.out) Tryd.underlying27 rfl IZ.out (by rfl)) rfl ?_
      refine .inr ⟨by rw [EQ.out]; exact E3.out, none, 0, 0, by rw [EQ.out, HZ.out], by rw [EQ.out]; rfl, ?_, fr_row F5.out (Nat.le_refl _) _⟩
      rw [EQ.out]
      exact OwnP.nil _ _
end Go.Proofs.YtapcjgmijcpfiaaDoor.opC

/-
  The options of bytes: the program's Parse.
-/
namespace Go.Proofs.YtapcjgmijcpfiaaDoor.opC
open Go.ChangeShapes Go.WideShapes Go.ChangeAt Go.RowKit
open Go.Proofs.YtapcjgmijcpfiaaDoor.memC Go.Proofs.YtapcjgmijcpfiaaDoor.genC Go.Proofs.YtapcjgmijcpfiaaDoor.butC Go.Proofs.YtapcjgmijcpfiaaDoor.freeC Go.Proofs.YtapcjgmijcpfiaaDoor.adC
open Go.Proofs.YtapcjgmijcpfiaaDoor.octC (Fr Rd RdD stopped getZ)
set_option linter.unusedVariables false
def psE (bs : List Int) : Int := if 40 < bs.length then 3 else if (psA bs zOpt).1 = 4 then 3 else (psA bs zOpt).1
def psO (bs : List Int) : Opt := if 40 < bs.length then zOpt else if (psA bs zOpt).1 = 4 then zOpt else (psA bs zOpt).2
theorem psA_good {bs : List Int} (hy : ∀ x ∈ bs, Byte x) (hm : bs.length ≤ 40) : ((psA bs zOpt).1 = 0 ∧ Good (psA bs zOpt).2) ∨ ((psA bs zOpt).1 ≠ 0 ∧ (psA bs zOpt).2 = zOpt) := psG_good _ bs zOpt hy hm zOpt_good
theorem ps_good {bs : List Int} (hy : ∀ x ∈ bs, Byte x) : (psE bs = 0 ∧ Good (psO bs)) ∨ (psE bs ≠ 0 ∧ psO bs = zOpt) := by
  unfold psE psO
  by_cases h : 40 < bs.length
  · rw [if_pos h, if_pos h]; exact .inr ⟨by decide, rfl⟩
  · rw [if_neg h, if_neg h]
    by_cases h4 : (psA bs zOpt).1 = 4
    · rw [if_pos h4, if_pos h4]; exact .inr ⟨by decide, rfl⟩
    · rw [if_neg h4, if_neg h4]; exact psA_good hy (by omega)
theorem good_mac {P : Int × Opt} (h : (P.1 = 0 ∧ Good P.2) ∨ (P.1 ≠ 0 ∧ P.2 = zOpt)) : P.2.mac.length = 12 := by
  rcases h with h | h
  · exact h.2.ok.lm
  · rw [h.2]; rfl
/-- options that were read, and an error -/
def PsR (w : World) (bs : List Int) (e : Ending) (w' : World) : Prop :=
  ∃ A n c, e = .returned (.tuple #[.agg (optV (psO bs) A n c), .int .i64 (psE bs)]) ∧ (psO bs).sk.length = n ∧ Prs w' w'.heap.size A n (psO bs).sk ∧ Below w.heap.size w w'
theorem ent_clo (cap : Array Value) (w : World) : (callFunc 33 cap).run Tryd.prog w = .ok (.enter 33 cap) w := by go_simp
set_option maxRecDepth 100000 in
theorem clo_stop (pb bo be : Nat) (A0 : Option Addr) (n0 c0 : Nat) (bs : List Int) (w : World) (hb : w.cell? ⟨pb, 0, none⟩ = some (.slice A0 n0 c0)) (hN : Nums .u8 w w.heap.size A0 n0 bs) (hm : n0 ≤ 40) (hy : ∀ x ∈ bs, Byte x) (h4 : (psA bs zOpt).1 = 4) :
    Calls Tryd.prog 33 #[.pointer (some ⟨pb, 0, none⟩), .pointer (some ⟨bo, 0, none⟩), .pointer (some ⟨be, 0, none⟩)] w fun e w' => e = stopped ∧ Fr (fun _ => False) w w' ∧ True := by
  have RD := Lib.hid (octC.read_any A0 n0 c0 bs w hN (by omega))
  have RE := Lib.hid (fun (p : Nat) (w' : World) (h : Rd w' p bs) => (read_any p p bs w' (rdD_of h) (by rw [hN.len]; exact hm) hy).mono fun e w'' h => (show e = stopped ∧ Fr (· = p) w' w'' by
    rcases h with h | h
    · exact h.2
    · exact absurd h4 h.1))
  clear hN hm hy h4
  go_enter Tryd.func33, Tryd.ntmps33
  go_wp2_with (first
    | (go_at_call 35; (refine RD.out.mono ?_); rintro e w1 ⟨q, rfl, hq, R, B1⟩
       have R1 := Lib.hid (RE.out q w1 R)
       have HQ := Lib.hid hq
       have F1 := Lib.hid (Fr.below (S := fun _ => False) B1)
       clear R B1 hq)
    | (go_at_call 34; (refine R1.out.mono ?_); rintro e v2 ⟨he, F⟩; rw [octC.stopped_eq] at he; subst he))
  exact ⟨rfl, rfl, fr_less F1.out F (fun k hk e => by have := HQ.out; omega), trivial⟩
/-- what a reading that ends leaves -/
def CloQ (w : World) (bo be : Nat) (P : Int × Opt) (w' : World) : Prop :=
  ∃ A n c, w'.heap[bo]? = some (.cells (optV P.2 A n c) 27 (0, 0)) ∧ w'.cell? ⟨be, 0, none⟩ = some (.int .i64 P.1) ∧ P.2.sk.length = n ∧ OwnP w' w.heap.size (.slice A n c) P.2.sk
set_option maxRecDepth 100000 in
set_option maxHeartbeats 1000000 in
theorem clo_end (pb bo be : Nat) (A0 : Option Addr) (n0 c0 : Nat) (bs : List Int) (w : World) (hb : w.cell? ⟨pb, 0, none⟩ = some (.slice A0 n0 c0)) (hN : Nums .u8 w w.heap.size A0 n0 bs) (hm : n0 ≤ 40) (hy : ∀ x ∈ bs, Byte x) (h4 : (psA bs zOpt).1 ≠ 4)
    (hp : w.heap[bo]? = some (.cells (optV zOpt none 0 0) 27 (0, 0))) (ht : w.cell? ⟨be, 0, none⟩ = some (.int .i64 0)) (hz : w.frozen? ⟨be, 0, none⟩ = false) (hne : bo ≠ be) :
    Calls Tryd.prog 33 #[.pointer (some ⟨pb, 0, none⟩), .pointer (some ⟨bo, 0, none⟩), .pointer (some ⟨be, 0, none⟩)] w fun e w' => e = .returned (.tuple #[]) ∧ Fr (fun k => k = bo ∨ k = be) w w' ∧ CloQ w bo be (psA bs zOpt) w' := by
  have RD := Lib.hid (octC.read_any A0 n0 c0 bs w hN (by omega))
  have MP := Lib.hid (good_mac (psA_good hy (by rw [hN.len]; exact hm)))
  have RE := Lib.hid (fun (p : Nat) (w' : World) (h : Rd w' p bs) => (read_any p p bs w' (rdD_of h) (by rw [hN.len]; exact hm) hy).mono fun e w'' h => (show ∃ A n c, e = .returned (.tuple #[.agg (optV (psA bs zOpt).2 A n c), .int .i64 (psA bs zOpt).1]) ∧ (psA bs zOpt).2.sk.length = n ∧ OwnP w'' w'.heap.size (.slice A n c) (psA bs zOpt).2.sk ∧ Fr (· = p) w' w'' by
    rcases h with h | h
    · exact absurd h.1 h4
    · exact h.2))
  obtain ⟨P, hP⟩ : ∃ P, P = psA bs zOpt := ⟨_, rfl⟩
  rw [← hP] at RE MP ⊢
  have lp := Lib.hid (lt_of_row hp)
  have lt := Lib.hid (show be < w.heap.size from World.block_lt_of_cell? _ _ ht)
  have SZ := Lib.hid (fun A n c => (optC zOpt_ok.lm none 0 0).size.trans (optC MP.out A n c).size.symm)
  have HP0 := Lib.hid hp
  have HT := Lib.hid ht
  have HZ := Lib.hid hz
  have NE := Lib.hid hne
  unfold CloQ
  generalize optV zOpt none 0 0 = Z at *
  clear hN hm hy h4 hp ht hz hne hP
  go_enter Tryd.func33, Tryd.ntmps33
  go_wp2_with (first
    | (go_at_call 35; (refine RD.out.mono ?_); rintro e w1 ⟨q, rfl, hq, R, B1⟩
       have R1 := Lib.hid (RE.out q w1 R)
       have HQ := Lib.hid hq
       have F1 := Lib.hid (Fr.below (S := fun _ => False) B1)
       have Z1 := Lib.hid B1.size
       clear R B1 hq)
    | (go_at_call 34; (refine R1.out.mono ?_); rintro e v2 ⟨A2, n2, c2, rfl, hl2, O, F⟩
       have F0 := Lib.hid (fr_less F1.out F (fun k hk e => by have := HQ.out; omega))
       have HL2 := Lib.hid hl2
       have UP := Lib.hid (optC MP.out A2 n2 c2).info
       have SP := Lib.hid (SZ.out A2 n2 c2)
       have OP := Lib.hid (opt_one P.2 A2 n2 c2)
       generalize hC : optV P.2 A2 n2 c2 = C at *
       have EC := Lib.hid hC
       clear hC
       have RW := Lib.hid (show v2.heap[bo]? = some (.cells Z 27 (0, 0)) from F0.out.row HP0.out (fun h => h))
       have e3 : (v2.setRow bo C).heap[be]? = w.heap[be]? := (setRow_other _ _ _ _ (fun e => NE.out e.symm)).trans (F0.out.block be lt.out (fun h => h))
       have t3 : (v2.setRow bo C).cell? ⟨be, 0, none⟩ = some (.int .i64 0) := (World.cell?_of_block (w := w) e3).trans HT.out
       have z3 : (v2.setRow bo C).frozen? ⟨be, 0, none⟩ = false := (World.frozen?_of_block (w := w) e3).trans HZ.out
       have OL := Lib.hid (O.less Z1.out)
       clear O F e3 hl2)
    | (refine wpList_store_row rfl 27 (.tmp 1) (.tmp 7) rfl bo _ rfl rfl _ _ RW.out UP.out SP.out OP.out ?_))
  go_end0
  have FS : Fr (fun k => k = bo ∨ k = be) w (v2.setRow bo C) := ⟨F0.out.os, F0.out.tape, F0.out.output, by simpa using F0.out.size, fun k hk hn => (setRow_other _ _ _ _ (fun e => hn (.inl e))).trans (F0.out.block k hk (fun e => e))⟩
  refine ⟨rfl, FS.trans (octC.Fr.setCell _ (fun _ => .inr rfl) _), A2, n2, c2, ?_, by go_simp, HL2.out, ?_⟩
  · rw [Below.heap_setCell _ _ _ _ (show bo ≠ be from NE.out), EC.out]
    exact setRow_heap _ _ _ _ _ _ RW.out
  · refine OwnP.keep (ps := P.2.sk) OL.out fun k h1 h2 => ?_
    have h3 := lp.out
    have h4 := lt.out
    rw [Below.heap_setCell _ _ _ _ (show k ≠ be by omega)]
    exact setRow_other _ _ _ _ (by omega)
/-- what stands while Parse returns -/
structure PaG (w0 Wr : World) (r0 bo be : Nat) (C : Array Value) (y : Int) (A : Option Addr) (n c : Nat) (l : List (Int × Int)) (w : World) : Prop where
  bel : Below w0.heap.size Wr w
  row : w.heap[bo]? = some (.cells C 27 (0, 0))
  told : w.cell? ⟨be, 0, none⟩ = some (.int .i64 y)
  own : OwnP w (r0 + 1) (.slice A n c) l
theorem PaG.keep {w0 Wr : World} {r0 bo be : Nat} {C : Array Value} {y : Int} {A : Option Addr} {n c : Nat} {l : List (Int × Int)} {w w' : World} (h0 : w0.heap.size ≤ r0) (hw : r0 ≤ w.heap.size) (h1 : bo ≠ r0) (h2 : be ≠ r0) (hd : Below w.heap.size w w' ∨ OnlyAt r0 w w') (h : PaG w0 Wr r0 bo be C y A n c l w) : PaG w0 Wr r0 bo be C y A n c l w' :=
  ⟨keep_below hd h0 (by omega) h.bel, keep_row hd h1 h.row, (by
    rcases hd with hd | hd
    · exact (hd.cell (p := ⟨be, 0, none⟩) (World.block_lt_of_cell? _ _ h.told)).trans h.told
    · exact (World.cell?_of_block (w := w) (hd.2 be h2)).trans h.told), h.own.keep fun g g1 g2 => by
    rcases hd with hd | hd
    · exact hd.block g g2
    · exact hd.2 g (by omega)⟩
def paR (g0 : Nat) (Z T : Array Value) : Nat → (Nat → Value) → World → Prop
  | 0, _, w => w.heap[g0]? = some (.cells Z 27 (0, 0))
  | 1, _, w => w.heap[g0]? = some (.cells T 27 (0, 0))
  | _, _, _ => True
theorem paR.keep (g0 : Nat) (Z T : Array Value) (k : Nat) (us us' : Nat → Value) (w w' : World) (hb : Below w.heap.size w w') (hR : paR g0 Z T k us w) : paR g0 Z T k us' w' := by
  unfold paR at hR ⊢
  split at hR
  · show w'.heap[g0]? = _
    rw [hb.block _ (lt_of_row hR)]; exact hR
  · show w'.heap[g0]? = _
    rw [hb.block _ (lt_of_row hR)]; exact hR
  · trivial
def paV (r0 bo be : Nat) (y : Int) (C : Array Value) : Nat → Value → World → Prop
  | 0, v, _ => v = .agg C
  | 1, v, _ => v = .int .i64 y
  | 3, v, _ => v = .int .i64 y
  | _, _, _ => True
theorem paV.keep (r0 bo be : Nat) (y : Int) (C : Array Value) (i : Nat) (v : Value) (w w' : World) (hd : Below w.heap.size w w' ∨ OnlyAt r0 w w') (h : paV r0 bo be y C i v w) : paV r0 bo be y C i v w' := by
  unfold paV at h ⊢
  split at h <;> exact h
def paT : List (Option Nat) := [none, none, none, some 3, none, none, none, none, none, none, none, none, none, none, some 0, some 1]
set_option maxRecDepth 100000 in
set_option maxHeartbeats 4000000 in
theorem cparse_any (A0 : Option Addr) (n0 c0 : Nat) (bs : List Int) (w : World) (hb : Nums .u8 w w.heap.size A0 n0 bs) (hy : ∀ x ∈ bs, Byte x) (hn : n0 ≤ 9223372036854775807) :
    Calls Tryd.prog 22 #[.slice A0 n0 c0] w (PsR w bs) := by
  have hzv := zeroOpt
  have hmf : ∀ (fn : Fn) (first cap : Array Value) (w : World), (Instr.makeFunc fn first cap).run Tryd.prog w = .ok (.func fn first cap) w := fun _ _ _ _ => rfl
  obtain ⟨Z, hZ⟩ : ∃ Z, Z = optV zOpt none 0 0 := ⟨_, rfl⟩
  obtain ⟨Wa, hWa⟩ : ∃ W, W = (w.alloc (.cells #[.slice A0 n0 c0] 30)).alloc (.cells Z 27) := ⟨_, rfl⟩
  have e1 : (w.alloc (.cells #[.slice A0 n0 c0] 30)).heap.size = w.heap.size + 1 := alloc_size _ _
  have sa : Wa.heap.size = w.heap.size + 2 := by rw [hWa, alloc_size, e1]
  have Ba : Below w.heap.size w Wa := by rw [hWa]; exact ((Below.refl _ _).alloc (Nat.le_refl _) _).alloc (by simp) _
  have rb : Wa.heap[w.heap.size]? = some (.cells #[.slice A0 n0 c0] 30 (0, 0)) := by rw [hWa, Below.block (alloc_below _ _) _ (by rw [e1]; omega)]; exact heap_alloc_new w _
  obtain ⟨r0, hr0⟩ : ∃ r0, r0 = w.heap.size + 1 := ⟨_, rfl⟩
  have RA := Lib.hid (show Wa.heap[r0]? = some (.cells Z 27 (0, 0)) by rw [hr0, hWa, ← e1]; exact heap_alloc_new _ _)
  have cb : Wa.cell? ⟨w.heap.size, 0, none⟩ = some (.slice A0 n0 c0) := by rw [cell_of_row Wa w.heap.size 0 _ _ (0, 0) rb]; rfl
  have ER0 := Lib.hid hr0
  have EB := Lib.hid zOpt_built
  have IZ := Lib.hid (optC zOpt_ok.lm none 0 0).info
  have OZ := Lib.hid (opt_one zOpt none 0 0)
  have SZ := Lib.hid (optC zOpt_ok.lm none 0 0).size
  have HZ := Lib.hid hZ
  rw [← hZ] at hzv EB IZ OZ SZ
  have HBA := Lib.hid Ba
  by_cases hbig : 40 < bs.length
  · have EQE := Lib.hid (show psE bs = 3 by unfold psE; rw [if_pos hbig])
    have EQO := Lib.hid (show psO bs = zOpt by unfold psO; rw [if_pos hbig])
    have hln := hb.len
    have q1 : (40 : Int) < (n0 : Int) := by omega
    have hr1 : w.heap.size + 1 = r0 := hr0.symm
    clear hb hy hbig hln sa Ba rb hZ hr0 hmf
    go_enter Tryd.func22, Tryd.ntmps22
    go_upto_region 1 with fail
    rw [← hWa]
    try rw [e1]
    try rw [hr1]
    clear hWa hzv e1 hr1
    go_wp2_with (first
      | (with_reducible refine at_build 27 ?_; refine wpList_runG (by kernel_rfl) _ (built_run (T := 27) rfl EB.out) ?_)
      | (refine wpList_store_row rfl 27 (.tmp 2) (.tmp 9) rfl r0 Z rfl rfl _ _ RA.out IZ.out rfl OZ.out ?_))
    refine bodyPost_ret (v := .tuple #[.agg Z, .int .i64 3]) (adC.results_cell_tmp Tryd.results22 _ _ r0 _ _ _ _ _ (by rfl) (setRow_heap _ _ _ _ _ _ RA.out) Tryd.underlying27 rfl IZ.out (by rfl)) rfl ?_
    exact ⟨none, 0, 0, by rw [EQE.out, EQO.out, HZ.out], by rw [EQO.out]; rfl, by rw [EQO.out]; exact Prs.none_, setR_below HBA.out (by have := ER0.out; omega) _⟩
  have hln := hb.len
  have hn40 : n0 ≤ 40 := by omega
  have q1 : ¬ (40 : Int) < (n0 : Int) := by omega
  obtain ⟨Wc, hWc⟩ : ∃ W, W = Wa.alloc (.cells Z 27) := ⟨_, rfl⟩
  obtain ⟨Wd, hWd⟩ : ∃ W, W = Wc.alloc (.cells #[.int .i64 0] 31) := ⟨_, rfl⟩
  obtain ⟨We, hWe⟩ : ∃ W, W = Wd.alloc (.cells #[.int .i64 0] 31) := ⟨_, rfl⟩
  have Bc : Below Wa.heap.size Wa Wc := by rw [hWc]; exact alloc_below _ _
  have Bd : Below Wc.heap.size Wc Wd := by rw [hWd]; exact alloc_below _ _
  have Be : Below Wd.heap.size Wd We := by rw [hWe]; exact alloc_below _ _
  have sc : Wc.heap.size = w.heap.size + 3 := by rw [hWc, alloc_size, sa]
  have sd : Wd.heap.size = w.heap.size + 4 := by rw [hWd, alloc_size, sc]
  have se : We.heap.size = w.heap.size + 5 := by rw [hWe, alloc_size, sd]
  have Bcd : Below Wa.heap.size Wa Wd := Bc.trans (Bd.mono Bc.size)
  have Bce : Below Wa.heap.size Wa We := Bcd.trans (Be.mono Bcd.size)
  have Bwe : Below w.heap.size w We := Ba.trans (Bce.mono Ba.size)
  have Bwd : Below w.heap.size w Wd := Ba.trans (Bcd.mono Ba.size)
  obtain ⟨bo, hbo⟩ : ∃ b, b = w.heap.size + 2 := ⟨_, rfl⟩
  obtain ⟨be, hbe⟩ : ∃ b, b = w.heap.size + 3 := ⟨_, rfl⟩
  have rbo : Wd.heap[bo]? = some (.cells Z 27 (0, 0)) := by rw [Bd.block _ (by omega), hbo, ← sa, hWc]; exact heap_alloc_new _ _
  have rbe : Wd.heap[be]? = some (.cells #[.int .i64 0] 31 (0, 0)) := by rw [hbe, ← sc, hWd]; exact heap_alloc_new _ _
  have rro : Wd.heap[r0]? = some (.cells Z 27 (0, 0)) := by rw [Bcd.block _ (by omega)]; exact RA.out
  have rboe : We.heap[bo]? = some (.cells Z 27 (0, 0)) := by rw [Be.block _ (by omega)]; exact rbo
  have rbee : We.heap[be]? = some (.cells #[.int .i64 0] 31 (0, 0)) := by rw [Be.block _ (by omega)]; exact rbe
  have cte : We.cell? ⟨be, 0, none⟩ = some (.int .i64 0) := by rw [cell_of_row We be 0 _ _ (0, 0) rbee]; rfl
  have fze : We.frozen? ⟨be, 0, none⟩ = false := frozen_of_row We be 0 _ _ rbee
  have cbe : We.cell? ⟨w.heap.size, 0, none⟩ = some (.slice A0 n0 c0) := (Bce.cell (p := ⟨w.heap.size, 0, none⟩) (by rw [sa]; show w.heap.size < _; omega)).trans cb
  have hNe : Nums .u8 We We.heap.size A0 n0 bs := (hb.below Bwe).more Bwe.size
  by_cases h4 : (psA bs zOpt).1 = 4
  · have EQE := Lib.hid (show psE bs = 3 by unfold psE; rw [if_neg hbig, if_pos h4])
    have EQO := Lib.hid (show psO bs = zOpt by unfold psO; rw [if_neg hbig, if_pos h4])
    have T := Lib.hid ((octC.try_halt 33 #[.pointer (some ⟨w.heap.size, 0, none⟩), .pointer (some ⟨bo, 0, none⟩), .pointer (some ⟨be, 0, none⟩)] Wd (fun _ => False) (fun _ => True) (fun _ h => h.elim) (ent_clo _) (fun _ _ _ _ => trivial) (by rw [← hWe]; exact clo_stop w.heap.size bo be A0 n0 c0 bs We cbe hNe hn40 hy h4)))
    have BWD := Lib.hid Bwd
    have RRO := Lib.hid rro
    have hs2 : Wa.heap.size = bo := sa.trans hbo.symm
    have hs3 : Wc.heap.size = be := sc.trans hbe.symm
    have hr1 : w.heap.size + 1 = r0 := hr0.symm
    clear hb hy hbig hln hn40 sa Ba rb hZ hr0 Bc Bd Be sc sd se Bcd Bce Bwe Bwd hbo hbe rbo rbe rro rboe rbee cte fze cbe hNe h4 hWe
    go_enter Tryd.func22, Tryd.ntmps22
    go_upto_region 1 with fail
    rw [← hWa]
    try rw [e1]
    try rw [hr1]
    clear hWa e1 hr1
    go_upto_region 4 with fail
    rw [← hWc]
    try rw [hs2]
    clear hWc hs2
    go_upto_region 5 with fail
    rw [← hWd]
    try rw [hs3]
    clear hWd hs3 hzv
    go_upto_region 6 with (first
      | (go_at_call 32; (refine T.out.mono ?_); rintro e Wr ⟨rfl, F, _⟩
         have BEL := Lib.hid (BWD.out.trans ((show Below Wd.heap.size Wd Wr from ⟨F.os, F.tape, F.output, F.size, fun k hk => F.block k hk (fun h => h)⟩).mono BWD.out.size))
         have RROW := Lib.hid (F.row RRO.out (fun h => h))
         clear F))
    go_wp2_with (first
      | (with_reducible refine at_build 27 ?_; refine wpList_runG (by kernel_rfl) _ (built_run (T := 27) rfl EB.out) ?_)
      | (refine wpList_store_row rfl 27 (.tmp 2) (.tmp 13) rfl r0 Z rfl rfl _ _ RROW.out IZ.out rfl OZ.out ?_))
    refine bodyPost_ret (v := .tuple #[.agg Z, .int .i64 3]) (adC.results_cell_tmp Tryd.results22 _ _ r0 _ _ _ _ _ (by rfl) (setRow_heap _ _ _ _ _ _ RROW.out) Tryd.underlying27 rfl IZ.out (by rfl)) rfl ?_
    exact ⟨none, 0, 0, by rw [EQE.out, EQO.out, HZ.out], by rw [EQO.out]; rfl, by rw [EQO.out]; exact Prs.none_, setR_below BEL.out (by have := ER0.out; omega) _⟩
  have EQE := Lib.hid (show psE bs = (psA bs zOpt).1 by unfold psE; rw [if_neg hbig, if_neg h4])
  have EQO := Lib.hid (show psO bs = (psA bs zOpt).2 by unfold psO; rw [if_neg hbig, if_neg h4])
  have MP := Lib.hid (good_mac (psA_good hy (by rw [hb.len]; exact hn40)))
  have hke : We.cell? ⟨Wd.heap.size, 0, none⟩ = some (.int .i64 0) := by rw [hWe, cell_of_row _ _ 0 _ _ (0, 0) (heap_alloc_new _ _)]; rfl
  have hkf : We.frozen? ⟨Wd.heap.size, 0, none⟩ = false := by rw [hWe]; go_simp
  have hCL := clo_end w.heap.size bo be A0 n0 c0 bs We cbe hNe hn40 hy h4 (by rw [← hZ]; exact rboe) cte fze (by omega)
  have hWe2 := hWe
  rw [hWe] at hCL
  have hsw : We.heap.size = Wd.heap.size + 1 := by omega
  have T := Lib.hid ((octC.try_ok 33 #[.pointer (some ⟨w.heap.size, 0, none⟩), .pointer (some ⟨bo, 0, none⟩), .pointer (some ⟨be, 0, none⟩)] Wd _ (ent_clo _) hCL fun w' ⟨F, _⟩ => by
    rw [← hWe] at F
    exact ⟨(F.cell (a := ⟨Wd.heap.size, 0, none⟩) (show Wd.heap.size < We.heap.size by omega) (show ¬ (Wd.heap.size = bo ∨ Wd.heap.size = be) by omega)).trans hke, (F.frozen (a := ⟨Wd.heap.size, 0, none⟩) (show Wd.heap.size < We.heap.size by omega) (show ¬ (Wd.heap.size = bo ∨ Wd.heap.size = be) by omega)).trans hkf⟩).mono fun e w' h => (show e = .returned (.int .i64 0) ∧ ∃ A n c, w'.heap[r0]? = some (.cells Z 27 (0, 0)) ∧ Below w.heap.size w w' ∧ (psA bs zOpt).2.sk.length = n ∧ r0 < w'.heap.size ∧ PaG w w' r0 bo be (optV (psA bs zOpt).2 A n c) (psA bs zOpt).1 A n c (psA bs zOpt).2.sk w' by
    obtain ⟨rfl, w1, ⟨F, A, n, c, h1, h2, h3, h5⟩, rfl⟩ := h
    rw [← hWe] at F h5
    have hs : ∀ k, k ≠ Wd.heap.size → (w1.setCell ⟨Wd.heap.size, 0, none⟩ (.int .i64 0)).heap[k]? = w1.heap[k]? := fun k hk => Below.heap_setCell _ _ _ _ hk
    have hz : (w1.setCell ⟨Wd.heap.size, 0, none⟩ (.int .i64 0)).heap.size = w1.heap.size := by simp [World.setCell]
    have hsz := F.size
    refine ⟨rfl, A, n, c, ?_, ⟨F.os.trans Bwe.os, F.tape.trans Bwe.tape, F.output.trans Bwe.output, by rw [hz]; exact Nat.le_trans Bwe.size F.size, fun k hk => ?_⟩, h3, by rw [hz]; omega, ⟨Below.refl _ _, ?_, ?_, ?_⟩⟩
    · rw [hs _ (by omega), F.block _ (by omega) (by omega), Be.block _ (by omega)]; exact rro
    · rw [hs k (by omega), F.block k (by omega) (by omega)]
      exact Bwe.block k hk
    · rw [hs _ (by omega)]; exact h1
    · exact (World.cell?_of_block (w := w1) (hs be (by omega))).trans h2
    · exact OwnP.less (OwnP.keep (ps := (psA bs zOpt).2.sk) h5 fun g g1 g2 => hs g (by omega)) (by omega)))
  have N1 := Lib.hid (show bo ≠ r0 by omega)
  have N2 := Lib.hid (show be ≠ r0 by omega)
  have L0 := Lib.hid (show w.heap.size ≤ r0 by omega)
  have hs2 : Wa.heap.size = bo := sa.trans hbo.symm
  have hs3 : Wc.heap.size = be := sc.trans hbe.symm
  have hr1 : w.heap.size + 1 = r0 := hr0.symm
  unfold PsR
  rw [EQE.out, EQO.out]
  obtain ⟨P, hP⟩ : ∃ P, P = psA bs zOpt := ⟨_, rfl⟩
  rw [← hP] at T MP ⊢
  clear hb hy hbig hln hn40 sa Ba rb hZ hr0 Bc Bd Be sc sd se Bcd Bce Bwe Bwd hbo hbe rbo rbe rro rboe rbee cte fze cbe hNe h4 hWe hke hkf hCL hWe2 hsw EQE EQO hP
  go_enter Tryd.func22, Tryd.ntmps22
  go_upto_region 1 with fail
  rw [← hWa]
  try rw [e1]
  try rw [hr1]
  clear hWa e1 hr1
  go_upto_region 4 with fail
  rw [← hWc]
  try rw [hs2]
  clear hWc hs2
  go_upto_region 5 with fail
  rw [← hWd]
  try rw [hs3]
  clear hWd hs3 hzv
  go_upto_region 7 with (first
    | (go_at_call 32; (refine T.out.mono ?_); rintro e Wr ⟨rfl, A, n, c, R0, BR, hln, hlr, G0⟩
       have HR0 := Lib.hid R0
       have HBR := Lib.hid BR
       have HLN := Lib.hid hln
       have LR0 := Lib.hid hlr
       have HG := Lib.hid G0
       clear R0 BR hln hlr G0))
  have UP := Lib.hid (optC MP.out A n c).info
  have SP := Lib.hid (show Z.size = (optV P.2 A n c).size by rw [SZ.out, (optC MP.out A n c).size])
  have OP := Lib.hid (opt_one P.2 A n c)
  clear T hmf q1 cb
  obtain ⟨y, hy⟩ : ∃ y, y = P.1 := ⟨_, rfl⟩
  obtain ⟨l, hl0⟩ : ∃ l, l = P.2.sk := ⟨_, rfl⟩
  have FIN := Lib.hid (fun w2 (h : PaG w Wr r0 bo be (optV P.2 A n c) y A n c l w2) => (show ∃ A' n' c', Ending.returned (.tuple #[.agg (optV P.2 A n c), .int .i64 y]) = .returned (.tuple #[.agg (optV P.2 A' n' c'), .int .i64 P.1]) ∧ P.2.sk.length = n' ∧ Prs w2 w2.heap.size A' n' P.2.sk ∧ Below w.heap.size w w2 from ⟨A, n, c, by rw [hy], HLN.out, by rw [← hl0]; exact h.own.prs, HBR.out.trans h.bel⟩))
  rw [← hy, ← hl0] at HG
  generalize hC : optV P.2 A n c = C at *
  clear hC hy hl0
  refine with_act fun a0 ha0 => ?_
  have hl : paT.length = a0.tmps.size := by rw [ha0]; rfl
  have k2 : a0.tmps[2]?.getD undef = .pointer (some ⟨r0, 0, none⟩) := by rw [ha0]; rfl
  have k4 : a0.tmps[4]?.getD undef = .pointer (some ⟨bo, 0, none⟩) := by rw [ha0]; rfl
  have k5 : a0.tmps[5]?.getD undef = .pointer (some ⟨be, 0, none⟩) := by rw [ha0]; rfl
  refine wp_region_chd (by kernel_rfl) paT (by kernel_rfl) (by kernel_rfl) hl (fun i => if i = 3 then .int .i64 0 else undef) (by rw [ha0]; rfl) (r0) (OnlyAt r0) [2] (by kernel_rfl) (by decide) (by decide) (fun w' => PaG w Wr r0 bo be C y A n c l w' ∧ r0 < w'.heap.size) (paV r0 bo be y C) (paR r0 Z C) (Nat.le_of_lt LR0.out) ⟨HG.out.keep L0.out (Nat.le_of_lt LR0.out) N1.out N2.out (.inl (Below.refl _ _).drew), LR0.out⟩ HR0.out (fun w1 w2 hb hd h => ⟨h.1.keep L0.out (Nat.le_of_lt h.2) N1.out N2.out hd, by rcases hd with hd | hd; exact Nat.lt_of_lt_of_le h.2 hd.size; exact Nat.lt_of_lt_of_le h.2 hd.1.size⟩) (fun i v w w' _ hd h => paV.keep _ _ _ _ _ i v w w' hd h) (fun k us us' w w' _ _ hb hR => paR.keep _ _ _ k us us' w w' hb hR) ⟨?_, ?_, ?_, ?_, trivial⟩ ?_
  · refine stepD_val [] (by kernel_rfl) (by decide) (by decide) rfl fun us w' hB hG hV => ?_
    have o4 := (frame_old2 (us := us) (a := a0) (show (paT[4]?).join = none from rfl)).trans k4
    have hg1 := hG.1.row
    generalize frame paT a0 us = fr at *
    exact load_C 27 4 rfl (bo) o4 _ _ (0, 0) _ hg1 Tryd.underlying27 rfl UP.out rfl
  · refine stepD_val [] (by kernel_rfl) (by decide) (by decide) rfl fun us w' hB hG hV => ?_
    have o5 := (frame_old2 (us := us) (a := a0) (show (paT[5]?).join = none from rfl)).trans k5
    have hc := hG.1.told
    generalize frame paT a0 us = fr at *
    exact val_C (v := .int .i64 y) (w' := w') (by go_simp) (Below.refl _ _) rfl
  · refine stepD_chain 0 rfl (by decide) [0] (by kernel_rfl) (by decide) rfl fun us w' hB hG hV hR => ?_
    have e0 : us 0 = .agg C := hV 0 (by simp)
    have v0 := (frame_at2 (us := us) hl (show (paT[14]?).join = some 0 from rfl)).trans e0
    have o2 := (frame_old2 (us := us) (a := a0) (show (paT[2]?).join = none from rfl)).trans k2
    generalize frame paT a0 us = fr at *
    exact store_J (R := fun v w'' => (OnlyAt r0 w' w'' ∧ Below r0 w' w'') ∧ paR r0 Z C 1 (upd us 2 v) w'') 27 2 14 rfl r0 C o2 v0 _ _ hR UP.out SP.out OP.out ⟨⟨OnlyAt.setRow _ _ _, (OnlyAt.setRow _ _ _).1⟩, setRow_heap _ _ _ _ _ _ hR⟩
  · refine stepD_val [1] (by kernel_rfl) (by decide) (by decide) rfl fun us w' hB hG hV => ?_
    have e1 : us 1 = .int .i64 y := hV 1 (by simp)
    have v1 := (frame_at2 (us := us) hl (show (paT[15]?).join = some 1 from rfl)).trans e1
    generalize frame paT a0 us = fr at *
    exact val_C (v := .int .i64 y) (w' := w') (by go_simp) (Below.refl _ _) rfl
  · intro us w2 hB2 hG hV hR
    have e3 : us 3 = .int .i64 y := hV 3 (by decide) (by decide)
    have hR1 := Lib.hid (show w2.heap[r0]? = some (.cells C 27 (0, 0)) from hR)
    have HG2 := Lib.hid hG.1
    subst ha0
    simp only [frame, paT, fill]
    rw [e3]
    clear hV hR hG hl k2 k4 k5 e3
    go_wp2_with fail
    refine bodyPost_ret (v := .tuple #[.agg C, .int .i64 y]) (adC.results_cell_tmp Tryd.results22 _ _ r0 _ _ _ _ _ (by rfl) hR1.out Tryd.underlying27 rfl UP.out (by rfl)) rfl ?_
    exact FIN.out w2 HG2.out
end Go.Proofs.YtapcjgmijcpfiaaDoor.opC

/-
  The statements' probe: an MSS laid, and read; whether there are too many pairs.
-/
namespace Go.Proofs.YtapcjgmijcpfiaaDoor.opC
open Go.ChangeShapes Go.WideShapes Go.ChangeAt Go.RowKit
open Go.Proofs.YtapcjgmijcpfiaaDoor.memC Go.Proofs.YtapcjgmijcpfiaaDoor.genC Go.Proofs.YtapcjgmijcpfiaaDoor.butC Go.Proofs.YtapcjgmijcpfiaaDoor.freeC Go.Proofs.YtapcjgmijcpfiaaDoor.adC
open Go.Proofs.YtapcjgmijcpfiaaDoor.pkC (OwnE)
set_option linter.unusedVariables false
def kO : Opt := { zOpt with hm := true, ms := 1460 }
theorem kO_ok : kO.Ok := { zOpt_ok with ms := by show (0 : Int) ≤ 1460 ∧ (1460 : Int) ≤ 65535; decide }
theorem kO_built : Tryd.prog.built 27 [(0, .bool true), (1, .int .u16 1460)] = some (optV kO none 0 0) := by kernel_rfl
theorem kO_lay : layX kO = [2, 4, 5, 180] := by decide +kernel
theorem kO_err : layE kO = 0 := by decide +kernel
theorem kO_may : mayB kO = true := by decide +kernel
theorem kB_byte : ∀ x ∈ ([2, 4, 5, 180] : List Int), Byte x := by unfold Byte; simp
theorem kO_layL : layL kO = [2, 4, 5, 180] := by have := kO_lay; unfold layX at this; rwa [if_pos kO_may] at this
theorem kO_ps : psA [2, 4, 5, 180] zOpt = (0, kO) := by
  rw [← kO_layL]; exact psA_lay (may_good kO_ok kO_may)
theorem kO_psE : psE [2, 4, 5, 180] = 0 := by unfold psE; rw [if_neg (by decide), kO_ps]; rfl
theorem kO_psO : psO [2, 4, 5, 180] = kO := by unfold psO; rw [if_neg (by decide), kO_ps]; rfl
theorem kO_str : strOfNums [2, 4, 5, 180] = ⟨#[2, 4, 5, 180]⟩ := by rfl
def farB (n : Nat) : Bool := decide (500 < n)
theorem far_any (o : Opt) (A : Option Addr) (n c : Nat) (w : World) (hl : o.mac.length = 12) : Calls Tryd.prog 8 #[.agg (optV o A n c)] w (Ret w (.bool (farB n))) := by
  obtain ⟨W, hW⟩ : ∃ W, W = w.alloc (.cells (optV o A n c) 27) := ⟨_, rfl⟩
  have R : W.heap[w.heap.size]? = some (.cells (optV o A n c) 27 (0, 0)) := by rw [hW]; exact heap_alloc_new _ _
  have HB := Lib.hid (show Below w.heap.size w W by rw [hW]; exact alloc_below _ _)
  have c5 := pkC.PkC.cell R (optC hl A n c).sk
  generalize optV o A n c = C at *
  clear R hl
  unfold farB
  go_enter Tryd.func8, Tryd.ntmps8
  go_upto_region 1 with fail
  rw [← hW]
  clear hW
  go_wp2_with fail
  go_ret
  exact ⟨ret_bool (by simp; omega), HB.out⟩
set_option maxRecDepth 100000 in
set_option maxHeartbeats 4000000 in
theorem alive_any (w : World) (hk : Kd w) : Calls Tryd.prog 9 #[] w (Ret w (.bool true)) := by
  have hzv := zeroOpt
  have KB := Lib.hid kO_built
  have LC := Lib.hid (clay_any kO none 0 0 w hk kO_ok rfl Prs.none_ (by decide))
  rw [kO_lay, kO_err] at LC
  have PC := Lib.hid (fun (A1 : Option Addr) (c1 : Nat) (w' : World) (h : Nums .u8 w' w'.heap.size A1 4 [2, 4, 5, 180]) => cparse_any A1 4 c1 [2, 4, 5, 180] w' h kB_byte (by decide))
  unfold PsR at PC
  rw [kO_psE, kO_psO] at PC
  have MK := Lib.hid (show kO.mac.length = 12 from rfl)
  have SZ := Lib.hid (fun A n c => (optC zOpt_ok.lm none 0 0).size.trans (optC (o := kO) rfl A n c).size.symm)
  have LN := Lib.hid (fun (A : Option Addr) (n c : Nat) (w' : World) (O : Own .u8 5 w' w.heap.size (.slice A n c) [2, 4, 5, 180]) => (show n = 4 from O.len.symm))
  clear hk
  go_enter Tryd.func9, Tryd.ntmps9
  go_upto_region 2 with (first
    | (with_reducible refine at_build 27 ?_; refine wpList_runG (by kernel_rfl) _ (built2_run (T := 27) (v0 := .bool true) (v1 := .int .u16 1460) rfl (by kernel_rfl) (by kernel_rfl) KB.out) ?_)
    | (go_at_call 10; (refine LC.out.mono ?_); rintro e w1 ⟨A1, n1, c1, rfl, O1, B1⟩
       obtain rfl := LN.out A1 n1 c1 w1 O1
       have N1 := Lib.hid O1.nums
       have HB1 := Lib.hid B1
       have P1 := Lib.hid (PC.out A1 c1 w1 O1.nums)
       clear O1 B1))
  clear LC PC LN
  obtain ⟨Z, hZ⟩ : ∃ Z, Z = optV zOpt none 0 0 := ⟨_, rfl⟩
  rw [← hZ] at hzv SZ
  clear hZ
  go_upto_region 3 with (first
    | (go_at_call 22; (refine P1.out.mono ?_); rintro e w2 ⟨A2, n2, c2, rfl, _, _, B2⟩
       have HB2 := Lib.hid B2
       have OC := Lib.hid (optC MK.out A2 n2 c2)
       have IC := Lib.hid OC.out.info
       have SC := Lib.hid (SZ.out A2 n2 c2)
       have OO := Lib.hid (opt_one kO A2 n2 c2)
       generalize optV kO A2 n2 c2 = C2 at *
       clear B2)
    | (refine wpList_store_row rfl 27 (.tmp 3) (.tmp 13) rfl w2.heap.size C2 rfl rfl _ _ (heap_alloc_new _ _) IC.out SC.out OO.out ?_; rw [World.setRow_alloc_new]))
  have B3 := Lib.hid (alloc_below w2 (.cells C2 27))
  have c1m : (w2.alloc (.cells C2 27)).cell? ⟨w2.heap.size, 1, none⟩ = some (.int .u16 1460) := by rw [cell_alloc_new]; exact OC.out.ms
  have BA := Lib.hid (HB2.out.trans (B3.out.mono HB2.out.size))
  have hcv : (convert 30 9 (.slice A1 4 c1)).run Tryd.prog (w2.alloc (.cells C2 27)) = .ok (.string ⟨#[2, 4, 5, 180]⟩) (w2.alloc (.cells C2 27)) := by
    rw [← kO_str]
    exact run_string ((N1.out.below BA.out).more BA.out.size) c1 30 5 9 Tryd.underlying30 Tryd.underlying5 Tryd.underlying9
  generalize w2.alloc (.cells C2 27) = w3 at *
  clear hzv
  go_wp2_with fail
  go_ret
  exact ⟨rfl, HB1.out.trans (BA.out.mono HB1.out.size)⟩
end Go.Proofs.YtapcjgmijcpfiaaDoor.opC

/-
  The walks of OptsBack and OptsAgain.
-/
namespace Go.Proofs.YtapcjgmijcpfiaaDoor.opC
open Go.ChangeShapes Go.WideShapes Go.ChangeAt Go.RowKit
open Go.Proofs.YtapcjgmijcpfiaaDoor.memC Go.Proofs.YtapcjgmijcpfiaaDoor.genC Go.Proofs.YtapcjgmijcpfiaaDoor.butC Go.Proofs.YtapcjgmijcpfiaaDoor.freeC Go.Proofs.YtapcjgmijcpfiaaDoor.adC
open Go.Proofs.YtapcjgmijcpfiaaDoor.pkC (OwnE)
set_option linter.unusedVariables false
theorem layL_byte {o : Opt} (ho : o.Ok) : ∀ x ∈ layL o, Byte x := by
  intro x hx
  unfold layL at hx
  rcases List.mem_append.1 hx with h | h
  · rw [← preL_all] at h; exact preL_byte ho (Nat.le_refl 6) x h
  · rw [List.eq_of_mem_replicate h]; unfold Byte; omega
theorem may_size {o : Opt} (h : mayB o = true) : sizeN o ≤ 40 := by
  simp only [mayB, Bool.and_eq_true, decide_eq_true_eq] at h
  exact h.2.2.2
theorem ps_lay {o : Opt} (ho : o.Ok) (h : mayB o = true) : psE (layL o) = 0 ∧ psO (layL o) = o := by
  have e := psA_lay (may_good ho h)
  have hl : ¬ 40 < (layL o).length := by rw [lay_len ho.lm]; have := may_size h; omega
  unfold psE psO
  rw [if_neg hl, if_neg hl, e]
  exact ⟨rfl, rfl⟩
theorem far_not {n : Nat} (h : farB n = false) : n ≤ 500 := by unfold farB at h; have := of_decide_eq_false h; omega
set_option maxRecDepth 100000 in
set_option maxHeartbeats 4000000 in
theorem back_walk (o : Opt) (A : Option Addr) (n c : Nat) (w : World) (hk : Kd w) (ho : o.Ok) (hn : o.sk.length = n) (hs : Prs w w.heap.size A n o.sk) :
    Calls Tryd.prog 5 #[.agg (optV o A n c)] w (Ret w (.bool true)) := by
  obtain ⟨W, hW⟩ : ∃ W, W = w.alloc (.cells (optV o A n c) 27) := ⟨_, rfl⟩
  have R := Lib.hid (show W.heap[w.heap.size]? = some (.cells (optV o A n c) 27 (0, 0)) by rw [hW]; exact heap_alloc_new _ _)
  have HB := Lib.hid (show Below w.heap.size w W by rw [hW]; exact alloc_below _ _)
  have HK := Lib.hid hk
  have FA := Lib.hid (fun w' => far_any o A n c w' ho.lm)
  have HP := Lib.hid (fun (w' : World) (h : Below w.heap.size w w') => (hs.below h).more h.size)
  have LA := Lib.hid (fun (w' : World) (h : Below w.heap.size w w') (hf : n ≤ 500) => clay_any o A n c w' (hk.below h hk.lt) ho hn (HP.out w' h) (by omega))
  have MA := Lib.hid (fun (w' : World) (h : Below w.heap.size w w') (hf : n ≤ 500) => cmay_any o A n c w' (hk.below h hk.lt) ho.lm hn (by omega))
  have AL := Lib.hid (fun (w' : World) (h : Below w.heap.size w w') => alive_any w' (hk.below h hk.lt))
  have IC := Lib.hid (optC ho.lm A n c).info
  have SZ := Lib.hid (fun A' n' c' => (optC zOpt_ok.lm none 0 0).size.trans (optC ho.lm A' n' c').size.symm)
  have IOX := Lib.hid (fun A' n' c' => (optC ho.lm A' n' c').info)
  have OO := Lib.hid (fun A' n' c' => opt_one o A' n' c')
  have SM := Lib.hid (fun (A' : Option Addr) (c' : Nat) (w' : World) (h : Below w.heap.size w w') (hf : n ≤ 500) (P : Prs w' w'.heap.size A' n o.sk) => (show Calls Tryd.prog 16 #[.agg (optV o A n c), .agg (optV o A' n c')] w' (Ret w' (.bool true)) by
    have h9 := csame_any o o A A' n c n c' w' ho.lm ho.lm (HP.out w' h) P (by omega) (by omega)
    rw [sameB_self] at h9
    exact h9))
  have HN := Lib.hid hn
  have OK := Lib.hid ho
  obtain ⟨C, hC⟩ : ∃ C, C = optV o A n c := ⟨_, rfl⟩
  rw [← hC] at hW R IC FA LA MA SM ⊢
  obtain ⟨f0, hf0⟩ : ∃ f0, farB n = f0 := ⟨_, rfl⟩
  rw [hf0] at FA
  have HF := Lib.hid hf0
  clear hk ho hs hn hC hf0
  cases f0
  rotate_left
  · go_enter Tryd.func5, Tryd.ntmps5
    go_upto_region 1 with fail
    rw [← hW]
    clear hW
    go_wp2_with (first
      | (refine wpList_load_row rfl 27 (.tmp 1) rfl w.heap.size rfl _ _ _ _ R.out Tryd.underlying27 rfl IC.out ?_)
      | (go_at_call 8; (refine (FA.out _).mono ?_); rintro e w2 ⟨rfl, B2⟩
         have HB2 := Lib.hid (HB.out.trans (B2.mono HB.out.size))
         clear B2)
      | (go_at_call 9; (refine (AL.out _ HB2.out).mono ?_); rintro e w3 ⟨rfl, B3⟩
         have HB3 := Lib.hid (HB2.out.trans (B3.mono HB2.out.size))
         clear B3))
    go_ret
    exact ⟨rfl, HB3.out⟩
  have hf5 := Lib.hid (far_not HF.out)
  have hmE : layE o = if mayB o = true then 0 else 1 := rfl
  have hmX : layX o = if mayB o = true then layL o else [] := rfl
  obtain ⟨m, hm⟩ : ∃ m, mayB o = m := ⟨_, rfl⟩
  rw [hm] at hmE hmX MA
  have HMM := Lib.hid hm
  clear hm
  cases m
  · rw [if_neg (by decide)] at hmE hmX
    rw [hmE, hmX] at LA
    clear hmE hmX
    go_enter Tryd.func5, Tryd.ntmps5
    go_upto_region 1 with fail
    rw [← hW]
    clear hW
    go_upto_region 4 with (first
      | (refine wpList_load_row rfl 27 (.tmp 1) rfl w.heap.size rfl _ _ _ _ R.out Tryd.underlying27 rfl IC.out ?_)
      | (go_at_call 8; (refine (FA.out _).mono ?_); rintro e w2 ⟨rfl, B2⟩
         have HB2 := Lib.hid (HB.out.trans (B2.mono HB.out.size))
         have R2 := Lib.hid (show w2.heap[w.heap.size]? = some (.cells C 27 (0, 0)) by rw [B2.block _ (lt_of_row R.out)]; exact R.out)
         clear B2)
      | (refine wpList_load_row rfl 27 (.tmp 1) rfl w.heap.size rfl _ _ _ _ R2.out Tryd.underlying27 rfl IC.out ?_)
      | (go_at_call 10; (refine (LA.out _ HB2.out hf5.out).mono ?_); rintro e w3 ⟨A3, n3, c3, rfl, O3, B3⟩
         have HB3 := Lib.hid (HB2.out.trans (B3.mono HB2.out.size))
         have R3 := Lib.hid (show w3.heap[w.heap.size]? = some (.cells C 27 (0, 0)) by rw [B3.block _ (lt_of_row R2.out)]; exact R2.out)
         obtain rfl : n3 = 0 := O3.len.symm
         clear O3 B3))
    go_wp2_with (first
      | (refine wpList_load_rowG (by kernel_rfl) 27 (.tmp 1) rfl w.heap.size (by kernel_rfl) _ _ _ _ R3.out Tryd.underlying27 rfl IC.out ?_)
      | (go_at_call 14; (refine (MA.out _ HB3.out hf5.out).mono ?_); rintro e w4 ⟨rfl, B4⟩
         have HB4 := Lib.hid (HB3.out.trans (B4.mono HB3.out.size))
         clear B4)
      | (go_at_call 9; (refine (AL.out _ HB4.out).mono ?_); rintro e w5 ⟨rfl, B5⟩
         have HB5 := Lib.hid (HB4.out.trans (B5.mono HB4.out.size))
         clear B5))
    go_ret
    exact ⟨rfl, HB5.out⟩
  rw [if_pos rfl] at hmE hmX
  rw [hmE, hmX] at LA
  clear hmE hmX
  obtain ⟨pe, po⟩ := ps_lay OK.out HMM.out
  have PS := Lib.hid (fun (A' : Option Addr) (n' c' : Nat) (w' : World) (N : Nums .u8 w' w'.heap.size A' n' (layL o)) (h : n' ≤ 40) => cparse_any A' n' c' (layL o) w' N (layL_byte OK.out) (by omega))
  unfold PsR at PS
  rw [pe, po] at PS
  have LL := Lib.hid (lay_len OK.out.lm)
  have S40 := Lib.hid (may_size HMM.out)
  have S4 := Lib.hid (size_mod o)
  have hzv := zeroOpt
  obtain ⟨Z, hZ⟩ : ∃ Z, Z = optV zOpt none 0 0 := ⟨_, rfl⟩
  rw [← hZ] at hzv SZ
  clear hZ pe po
  go_enter Tryd.func5, Tryd.ntmps5
  go_upto_region 1 with fail
  rw [← hW]
  clear hW
  go_upto_region 4 with (first
      | (refine wpList_load_row rfl 27 (.tmp 1) rfl w.heap.size rfl _ _ _ _ R.out Tryd.underlying27 rfl IC.out ?_)
      | (go_at_call 8; (refine (FA.out _).mono ?_); rintro e w2 ⟨rfl, B2⟩
         have HB2 := Lib.hid (HB.out.trans (B2.mono HB.out.size))
         have R2 := Lib.hid (show w2.heap[w.heap.size]? = some (.cells C 27 (0, 0)) by rw [B2.block _ (lt_of_row R.out)]; exact R.out)
         clear B2)
      | (refine wpList_load_row rfl 27 (.tmp 1) rfl w.heap.size rfl _ _ _ _ R2.out Tryd.underlying27 rfl IC.out ?_)
      | (go_at_call 10; (refine (LA.out _ HB2.out hf5.out).mono ?_); rintro e w3 ⟨A3, n3, c3, rfl, O3, B3⟩
         have HB3 := Lib.hid (HB2.out.trans (B3.mono HB2.out.size))
         have R3 := Lib.hid (show w3.heap[w.heap.size]? = some (.cells C 27 (0, 0)) by rw [B3.block _ (lt_of_row R2.out)]; exact R2.out)
         have N3 := Lib.hid (show n3 = sizeN o by rw [← O3.len, LL.out])
         have P3 := Lib.hid (PS.out A3 n3 c3 w3 O3.nums (by rw [← O3.len, LL.out]; exact S40.out))
         clear O3 B3))
  clear PS LA FA
  go_upto_region 7 with (first
      | (go_at_call 22; (refine P3.out.mono ?_); rintro e w4 ⟨A4, n4, c4, rfl, l4, N4, B4⟩
         obtain rfl : n4 = n := l4.symm.trans HN.out
         have HB4 := Lib.hid (HB3.out.trans (B4.mono HB3.out.size))
         have R4 := Lib.hid (show w4.heap[w.heap.size]? = some (.cells C 27 (0, 0)) by rw [B4.block _ (lt_of_row R3.out)]; exact R3.out)
         have PP4 := Lib.hid N4
         clear N4 B4 l4)
      | (refine wpList_store_row rfl 27 (.tmp 5) (.tmp 31) rfl w4.heap.size _ rfl rfl _ _ (heap_alloc_new _ _) (IOX.out A4 _ c4) (SZ.out A4 _ c4) (OO.out A4 _ c4) ?_; rw [World.setRow_alloc_new]))
  have B5 := Lib.hid (alloc_below w4 (.cells (optV o A4 n4 c4) 27))
  have HB5 := Lib.hid (HB4.out.trans (B5.out.mono HB4.out.size))
  have R5 := Lib.hid (show (w4.alloc (.cells (optV o A4 n4 c4) 27)).heap[w.heap.size]? = some (.cells C 27 (0, 0)) by rw [B5.out.block _ (lt_of_row R4.out)]; exact R4.out)
  have Q5 := Lib.hid (heap_alloc_new w4 (.cells (optV o A4 n4 c4) 27))
  have PP5 := Lib.hid ((PP4.out.below B5.out).more B5.out.size)
  have SM5 := Lib.hid (SM.out A4 c4 (w4.alloc (.cells (optV o A4 n4 c4) 27)) HB5.out hf5.out PP5.out)
  have I4 := Lib.hid (IOX.out A4 n4 c4)
  generalize w4.alloc (.cells (optV o A4 n4 c4) 27) = w5 at *
  obtain ⟨C4, hC4⟩ : ∃ C4, C4 = optV o A4 n4 c4 := ⟨_, rfl⟩
  rw [← hC4] at Q5 SM5 I4
  obtain ⟨s, hs⟩ : ∃ s, s = n3 := ⟨_, rfl⟩
  have hs4 : (n3 : Int).tmod 4 = 0 := by rw [Int.tmod_eq_emod_of_nonneg (by omega)]; have h1 := N3.out; have h2 := S4.out; omega
  have hs40 : (n3 : Int) ≤ 40 := by have h1 := N3.out; have h2 := S40.out; omega
  clear hzv hC4 hs SM IOX OO SZ
  go_wp2_with (first
      | (with_reducible refine atC.at_load 27 1 ?_; refine wpList_load_rowG (by kernel_rfl) 27 (.tmp 1) rfl w.heap.size (by kernel_rfl) _ _ _ _ R5.out Tryd.underlying27 rfl IC.out ?_)
      | (with_reducible refine atC.at_load 27 5 ?_; refine wpList_load_rowG (by kernel_rfl) 27 (.tmp 5) rfl w4.heap.size (by kernel_rfl) _ _ _ _ Q5.out Tryd.underlying27 rfl I4.out ?_)
      | (go_at_call 16; (refine SM5.out.mono ?_); rintro e w6 ⟨rfl, B6⟩
         have HB6 := Lib.hid (HB5.out.trans (B6.mono HB5.out.size))
         clear B6)
      | (go_at_call 9; (refine (AL.out _ HB6.out).mono ?_); rintro e w7 ⟨rfl, B7⟩
         have HB7 := Lib.hid (HB6.out.trans (B7.mono HB6.out.size))
         clear B7))
  go_ret
  exact ⟨rfl, HB7.out⟩
end Go.Proofs.YtapcjgmijcpfiaaDoor.opC

/-
  Options with as many pairs as fit: the document's.
-/
namespace Go.Proofs.YtapcjgmijcpfiaaDoor.opC
open Go.ChangeShapes Go.WideShapes Go.ChangeAt Go.RowKit
open Go.Proofs.YtapcjgmijcpfiaaDoor.memC Go.Proofs.YtapcjgmijcpfiaaDoor.genC Go.Proofs.YtapcjgmijcpfiaaDoor.butC Go.Proofs.YtapcjgmijcpfiaaDoor.freeC Go.Proofs.YtapcjgmijcpfiaaDoor.adC
set_option linter.unusedVariables false
theorem size_none (o : Opt) : sizeN { o with sk := o.sk.take 0 } ≤ 40 := by
  have h : bodyN { o with sk := o.sk.take 0 } ≤ 35 := by
    have h2 := pieceN_le { o with sk := o.sk.take 0 } 2
    have h3 := pieceN_le { o with sk := o.sk.take 0 } 3
    have h4 := pieceN_le { o with sk := o.sk.take 0 } 4
    have h8 := pieceN_le { o with sk := o.sk.take 0 } 8
    have h5 : pieceN { o with sk := o.sk.take 0 } 5 = 0 := by simp [pieceN, hasB]
    have h29 := pieceN_le { o with sk := o.sk.take 0 } 29
    have e2 : sizeK 2 ({ o with sk := o.sk.take 0 } : Opt).sk.length = 4 := rfl
    have e3 : sizeK 3 ({ o with sk := o.sk.take 0 } : Opt).sk.length = 3 := rfl
    have e4 : sizeK 4 ({ o with sk := o.sk.take 0 } : Opt).sk.length = 2 := rfl
    have e8 : sizeK 8 ({ o with sk := o.sk.take 0 } : Opt).sk.length = 10 := rfl
    have e29 : sizeK 29 ({ o with sk := o.sk.take 0 } : Opt).sk.length = 16 := rfl
    rw [e2] at h2; rw [e3] at h3; rw [e4] at h4; rw [e8] at h8; rw [e29] at h29
    have e : bodyN { o with sk := o.sk.take 0 } = pieceN { o with sk := o.sk.take 0 } 2 + (pieceN { o with sk := o.sk.take 0 } 3 + (pieceN { o with sk := o.sk.take 0 } 4 + (pieceN { o with sk := o.sk.take 0 } 8 + (pieceN { o with sk := o.sk.take 0 } 5 + (pieceN { o with sk := o.sk.take 0 } 29 + 0))))) := rfl
    omega
  unfold sizeN padN
  omega
set_option maxRecDepth 100000 in
set_option maxHeartbeats 4000000 in
theorem rfit_any (o : Opt) (A : Option Addr) (n c : Nat) (w : World) (ho : o.Ok) (hn : o.sk.length = n) (hs : Prs w w.heap.size A n o.sk) (hc : n ≤ c) (hm : n ≤ 600) (hcm : c ≤ 9223372036854775807) :
    Calls Tryd.prog 21 #[.agg (optV o A n c)] w (FitRet w o) := by
  have hzv := zeroOpt
  obtain ⟨W, hW⟩ : ∃ W, W = (w.alloc (.cells (optV o A n c) 27)).alloc (.cells (optV zOpt none 0 0) 27) := ⟨_, rfl⟩
  have e1 : (w.alloc (.cells (optV o A n c) 27)).heap.size = w.heap.size + 1 := alloc_size _ _
  have R0 : OptAt W w.heap.size o A n c := by unfold OptAt; rw [hW, Below.block (alloc_below _ _) _ (by rw [e1]; omega)]; exact heap_alloc_new w _
  have Z0 : OptAt W (w.heap.size + 1) zOpt none 0 0 := by unfold OptAt; rw [hW, ← e1]; exact heap_alloc_new _ _
  have B0 : Below w.heap.size w W := by rw [hW]; exact ((Below.refl _ _).alloc (Nat.le_refl _) _).alloc (by simp) _
  have k5 := pkC.PkC.cell R0 (optC ho.lm A n c).sk
  have f5 := R0.frozen 5
  obtain ⟨m, hmm⟩ : ∃ m, m = min n 4 := ⟨_, rfl⟩
  have hm4 : m ≤ 4 := by omega
  have hmn : m ≤ n := by omega
  have hmi : min (n : Int) 4 = (m : Int) := by omega
  have F0 := Lib.hid (show fitA o m = fitN o by unfold fitN; rw [hn, ← hmm])
  have HP := Lib.hid (fun (w' : World) (h : Below w.heap.size w w') (k : Nat) (hk : k ≤ n) => ((hs.below h).more h.size).upto hk)
  have MK := Lib.hid ho.lm
  have HC := Lib.hid hc
  have HM := Lib.hid hm
  have OK := Lib.hid ho
  have HN := Lib.hid hn
  have M4 := Lib.hid hm4
  have MN := Lib.hid hmn
  have SZO := Lib.hid (show (optV zOpt none 0 0).size = 24 from (optC zOpt_ok.lm none 0 0).size)
  have SZ := Lib.hid (fun (k : Nat) (hk' : k ≤ n) (A' : Option Addr) (c' : Nat) (w' : World) (h : Prs w' w'.heap.size A' k (o.sk.take k)) => rsize_any { o with sk := o.sk.take k } A' k c' w' (take_ok ho k) (by simp only [List.length_take]; omega) h (by omega))
  have LK := Lib.hid (fun (k : Nat) (hk' : k ≤ n) => (show (o.sk.take k).length = k by rw [List.length_take]; omega))
  have HMM := Lib.hid hmm
  have RR0 := Lib.hid R0; have ZZ0 := Lib.hid Z0; have BB0 := Lib.hid B0
  clear R0 Z0 B0 ho hn hs e1 hmm hm4 hmn hmi
  go_enter Tryd.func21, Tryd.ntmps21
  go_upto_region 1 with fail
  rw [← hW]
  clear hW hzv
  go_upto_region 2 with fail
  go_cut [4] from 5 (fun v wc => v = .int .i64 (m : Int) ∧ wc = W)
  case first =>
    by_cases h4 : n ≤ 4
    · obtain rfl : m = n := by have := HMM.out; omega
      have h5 : (m : Int) ≤ 4 := by omega
      go_wp2_with fail
      go_meet
      exact ⟨rfl, rfl⟩
    · obtain rfl : m = 4 := by have := HMM.out; omega
      have h5 : ¬ (n : Int) ≤ 4 := by omega
      go_wp2_with fail
      go_meet
      exact ⟨rfl, rfl⟩
  case rest =>
  obtain ⟨rfl, hwc⟩ := hcut
  subst hwc
  clear k5 f5
  go_wp2_with fail
  go_loopw [4] (fun u wr => ∃ k : Nat, k ≤ m ∧ u = .int .i64 (k : Int) ∧ fitA o k = fitN o ∧ (∃ sx A' n' c', OptAt wr w.heap.size { o with sk := sx } A' n' c') ∧ OptAt wr (w.heap.size + 1) zOpt none 0 0 ∧ Below w.heap.size w wr) (fun u _ => (intOf u).toNat)
  case atStart => exact ⟨m, Nat.le_refl _, rfl, F0.out, ⟨o.sk, A, n, c, RR0.out⟩, ZZ0.out, BB0.out⟩
  case round =>
    obtain ⟨k, hkm, rfl, hF, ⟨sx, Ax, nx, cx, Rx⟩, Zk, Bk⟩ := hrel
    have hk4 : k ≤ 4 := Nat.le_trans hkm M4.out
    have hkn : k ≤ n := Nat.le_trans hkm MN.out
    have z0 : (0 : Int) ≤ (k : Int) := by omega
    have z1 : (k : Int) ≤ (c : Int) := by have := HC.out; omega
    have RX := Lib.hid Rx; have ZX := Lib.hid Zk; have BX := Lib.hid Bk
    have HK := Lib.hid hkm
    have PK := Lib.hid (HP.out wr Bk k hkn)
    have SK := Lib.hid (SZ.out k hkn)
    have hzl := Zk.lt
    clear Rx Zk Bk SZ
    go_upto_region 6 with (at_builtin; (refine wpList_appP _ rfl (.const (.slice none 0 0)) (.tmp 16) rfl wr.heap.size _ [] rfl (OwnP.nil _ _) wr.heap.size A k c (o.sk.take k) rfl PK.out (by simp only [List.length_nil]; omega) (Nat.le_refl _) k (by simp only [List.length_nil]; omega) ?_)
                           intro A3 c3 w3 g3 O3 B3
                           have HO3 := Lib.hid (show OwnP w3 wr.heap.size (.slice A3 k c3) (o.sk.take k) by simpa using O3)
                           have HG3 := Lib.hid g3
                           have HB3 := Lib.hid (BX.out.trans (B3.mono (Below.size BX.out)))
                           have R3 := Lib.hid (OptAt.bel RX.out B3)
                           have Z3 := Lib.hid (OptAt.bel ZX.out B3)
                           have c53 := pkC.PkC.cell R3.out (optC (o := { o with sk := sx }) MK.out Ax nx cx).sk
                           have f53 := R3.out.frozen 5
                           clear O3 B3 g3)
    have R4 := Lib.hid (R3.out.set_ (o' := { o with sk := o.sk.take k }) (A' := A3) (n' := k) (c' := c3) 5 (.slice A3 k c3) (optV_sk _))
    have Z4 := Lib.hid (Z3.out.other (a := ⟨w.heap.size, 5, none⟩) (by show w.heap.size ≠ w.heap.size + 1; omega) (.slice A3 k c3))
    have B4 := Lib.hid (HB3.out.setCell (p := ⟨w.heap.size, 5, none⟩) (Nat.le_refl _) (.slice A3 k c3))
    have O4 := Lib.hid (HO3.out.keep (w' := w3.setCell ⟨w.heap.size, 5, none⟩ (.slice A3 k c3)) fun k h1 h2 => Below.heap_setCell _ _ _ _ (by show k ≠ w.heap.size; omega))
    have I4 := Lib.hid (optC (o := { o with sk := o.sk.take k }) MK.out A3 k c3).info
    have S4 := Lib.hid (show (optV zOpt none 0 0).size = (optV { o with sk := o.sk.take k } A3 k c3).size by rw [SZO.out, (optC (o := { o with sk := o.sk.take k }) MK.out A3 k c3).size])
    have P4 := Lib.hid (opt_one { o with sk := o.sk.take k } A3 k c3)
    generalize w3.setCell ⟨w.heap.size, 5, none⟩ (.slice A3 k c3) = W4 at *
    have SK4 := Lib.hid (SK.out A3 c3 W4 O4.out.prs)
    have SKN := Lib.hid (size_none o)
    clear c53 f53 SK
    by_cases hsz : sizeN { o with sk := o.sk.take k } ≤ 40
    · have hkf : k = fitN o := by
        rw [← hF]
        rcases Nat.eq_zero_or_pos k with rfl | h0
        · rfl
        · obtain ⟨j, rfl⟩ : ∃ j, k = j + 1 := ⟨k - 1, by omega⟩
          rw [show fitA o (j + 1) = if sizeN { o with sk := o.sk.take (j + 1) } ≤ 40 then j + 1 else fitA o j from rfl, if_pos hsz]
      have HKF := Lib.hid hkf
      obtain ⟨z, hz⟩ : ∃ z, z = sizeN { o with sk := o.sk.take k } := ⟨_, rfl⟩
      rw [← hz] at SK4 hsz
      have z2 : (z : Int) ≤ 40 := by omega
      unfold OptAt at R4
      generalize hC4 : optV { o with sk := o.sk.take k } A3 k c3 = C4 at *
      have EC4 := Lib.hid hC4
      clear hF hkm hk4 hkn hsz hz hkf hC4
      go_upto_region 7 with (first
        | (refine wpList_load_row rfl 27 (.tmp 1) rfl w.heap.size rfl _ _ _ _ R4.out Tryd.underlying27 rfl I4.out ?_)
        | (go_at_call 13; (refine SK4.out.mono ?_); rintro e w5 ⟨rfl, B5⟩
           have R5 := Lib.hid (show w5.heap[w.heap.size]? = some (.cells C4 27 (0, 0)) by rw [B5.block _ (lt_of_row R4.out)]; exact R4.out)
           have Z5 := Lib.hid (OptAt.bel Z4.out B5)
           have HB5 := Lib.hid (B4.out.trans (B5.mono (Below.size B4.out)))
           have O5 := Lib.hid (O4.out.below B5)
           clear B5))
      unfold OptAt at Z5
      go_wp2_with (first
        | (refine wpList_load_row rfl 27 (.tmp 1) rfl w.heap.size rfl _ _ _ _ R5.out Tryd.underlying27 rfl I4.out ?_)
        | (refine wpList_store_row rfl 27 (.tmp 2) (.tmp 22) rfl (w.heap.size + 1) C4 rfl rfl _ _ Z5.out I4.out S4.out P4.out ?_))
      refine bodyPost_ret (v := .agg C4) (Go.results_cell_row Tryd.results21 _ _ (w.heap.size + 1) _ _ _ _ (by rfl) (setRow_heap _ _ _ _ _ _ Z5.out) Tryd.underlying27 rfl I4.out) rfl ?_
      have e := HKF.out
      subst e
      exact ⟨A3, c3, by rw [← EC4.out]; rfl, HG3.out, (O5.out.keep fun k h1 h2 => setRow_other _ _ _ _ (by omega)).prs, setR_below HB5.out (by omega) _⟩
    · have hk0 : k ≠ 0 := fun h => hsz (by rw [h]; exact SKN.out)
      obtain ⟨j, rfl⟩ : ∃ j, k = j + 1 := ⟨k - 1, by omega⟩
      have hF2 := Lib.hid (show fitA o j = fitN o by rw [← hF]; rw [show fitA o (j + 1) = if sizeN { o with sk := o.sk.take (j + 1) } ≤ 40 then j + 1 else fitA o j from rfl, if_neg hsz])
      obtain ⟨z, hz⟩ : ∃ z, z = sizeN { o with sk := o.sk.take (j + 1) } := ⟨_, rfl⟩
      rw [← hz] at SK4 hsz
      have z2 : ¬ (z : Int) ≤ 40 := by omega
      have z3 : decide ((z : Int) ≤ 40) = false := decide_eq_false z2
      have z4 : ((j + 1 : Nat) : Int) - 1 = (j : Int) := by omega
      have z5 : IntKind.i64.wrap (((j + 1 : Nat) : Int) - 1) = (j : Int) := by rw [z4]; exact IntWalk.i64_in _ (by omega)
      have HJ := Lib.hid (show j ≤ m by omega)
      have R4k := R4
      unfold OptAt at R4
      generalize hC4 : optV { o with sk := o.sk.take (j + 1) } A3 (j + 1) c3 = C4 at R4 I4 S4 P4 SK4
      clear hF hkm hk4 hkn hsz hz hk0 hC4
      go_wp2_with (first
        | (refine wpList_load_row rfl 27 (.tmp 1) rfl w.heap.size rfl _ _ _ _ R4.out Tryd.underlying27 rfl I4.out ?_)
        | (go_at_call 13; (refine SK4.out.mono ?_); rintro e w5 ⟨rfl, B5⟩
           have R5 := Lib.hid (OptAt.bel R4k.out B5)
           have Z5 := Lib.hid (OptAt.bel Z4.out B5)
           have HB5 := Lib.hid (B4.out.trans (B5.mono (Below.size B4.out)))
           clear B5))
      go_roundw
      case rel => exact ⟨j, HJ.out, by first | rfl | go_num, hF2.out, ⟨_, _, _, _, R5.out⟩, Z5.out, HB5.out⟩
      case measure => simp [intOf]
end Go.Proofs.YtapcjgmijcpfiaaDoor.opC
