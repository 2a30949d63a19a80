/-
  Tables as bytes: the walk of the law TableBytes. (Written by tools/gen_byl.py.)
-/
import Derived.Test.YtjnnohghgkjhcaaDoorM16
import Derived.Test.YtjnnohghgkjhcaaDoorM17
import Derived.Deep.RegionLaw
import Derived.Stop.BytesEq
namespace Go.Proofs.YtjnnohghgkjhcaaDoor
open Go.RowKit
set_option linter.unusedVariables false
set_option linter.unusedSimpArgs false
theorem guardD : Tryd.prog.eqGuardType Tryd.prog.depth 35 = false := by kernel_rfl
theorem sameD (d : List UInt8) (h : d.length = 16) (w : World) : (Op.equalIn 10000 35 (.agg (BV d).toArray) (.agg (BV d).toArray)).run Tryd.prog w = .ok true w := by
 have := run_equalIn_bytes (P := Tryd.prog) w 9998 35 5 16 Tryd.underlying35 Tryd.underlying5 byteOne d d h h
 rwa [beq_self_eq_true] at this
theorem of_call (E : List UInt8) (v : Value) (W : World) (h : gRow 9 [.string (S E)] W v) (hE : E.length ≤ 1099511627000) (hK : KLaid W) :
  Calls Tryd.prog 11 #[.int .i64 8, v] W fun e w' => e = .returned (.agg (BV (digestOf (inputOf 8 [E]))).toArray) ∧ Below W.heap.size W w' := by
 obtain ⟨g, rfl, hb⟩ := h
 refine of_any 8 (some ⟨g, 0, none⟩) 1 1 [E] W (reads_row W g _ _ hb) (by omega) ?_ hK
 have h1 := Wr.encL_len_le Wr.encB (9 + E.length) [E] (fun x hx => by
  rw [List.mem_singleton] at hx
  subst hx
  exact Wr.encB_len9 x)
 simp only [List.length_cons, List.length_nil] at h1
 omega
theorem byte_wrap (z : Int) : IntKind.u8.wrap z = (((UInt8.ofNat (IntKind.u8.wrap z).toNat).toNat : Nat) : Int) := by
 have h : 0 ≤ IntKind.u8.wrap z ∧ IntKind.u8.wrap z ≤ 255 := by
  show 0 ≤ z % 256 ∧ z % 256 ≤ 255
  omega
 simp only [UInt8.toNat_ofNat']
 omega
def ksB3 (BS TV DV : Value) (nb : Nat) (E : List UInt8) : List (World → Value → Prop) := [gIs (BS), gIs (.int .i64 (nb : Int)), gIs (.bool false), gIs (.bool false), gIs (BS), gIs (TV), gBs E, gIs (.bool true), gIs (.bool false), gIs (.bool false), gIs (.bool false), gIs (TV), gIs (DV), gIs (TV), gIs (DV), gIs (.bool false), gIs (.bool false), gIs (.bool false), gIs (TV), gIs (DV), gIs (BS), gIs (.string (S E)), gRow 9 [.string (S E)], gIs (DV), gIs (.bool false), gIs (.bool false)]
theorem ksB3_stab (BS TV DV : Value) (nb : Nat) (E : List UInt8) : StabL (ksB3 BS TV DV nb E) := stabL_cons (stab_is _) (stabL_cons (stab_is _) (stabL_cons (stab_is _) (stabL_cons (stab_is _) (stabL_cons (stab_is _) (stabL_cons (stab_is _) (stabL_cons (stab_bs _) (stabL_cons (stab_is _) (stabL_cons (stab_is _) (stabL_cons (stab_is _) (stabL_cons (stab_is _) (stabL_cons (stab_is _) (stabL_cons (stab_is _) (stabL_cons (stab_is _) (stabL_cons (stab_is _) (stabL_cons (stab_is _) (stabL_cons (stab_is _) (stabL_cons (stab_is _) (stabL_cons (stab_is _) (stabL_cons (stab_is _) (stabL_cons (stab_is _) (stabL_cons (stab_is _) (stabL_cons (stab_row _ _) (stabL_cons (stab_is _) (stabL_cons (stab_is _) (stabL_cons (stab_is _) (stabL_nil))))))))))))))))))))))))))
def ksB14a (TX TY : Value) (E7 : List UInt8) (nb us gb nbc : Nat) (er : Int) (i : Nat) : List (World → Value → Prop) := [gIs (.int .i64 0), gIs (.int .i64 0), gIs (.bool false), gIs (.bool false), gIs (.int .i64 (nb : Int)), gIs (.int .i64 (nb : Int)), gIs (.bool false), gIs (.bool false), gIs (.bool false), gIs (TX), gBs E7, gIs (TY), gBs E7, gIs (.bool true), gIs (.bool false), gIs (.bool false), gIs (.bool false), gIs (.int .i64 0), gIs (.bool true), gIs (.bool true), gIs (.int .i64 0), gIs (.bool false), gIs (.bool false), gIs (.int .i64 (nb : Int)), gIs (.slice (some ⟨gb, 0, none⟩) nb nbc), gIs (.int .i64 (nb : Int)), gIs (.bool false), gIs (.bool false), gIs (.bool false), gIs (.bool false), gIs (.bool false), gIs (.int .i64 0), gIs (.bool false), gIs (.bool false), gIs undef, gIs undef, gIs (.bool false), gIs (.bool false)]
theorem ksB14a_stab (TX TY : Value) (E7 : List UInt8) (nb us gb nbc : Nat) (er : Int) (i : Nat) : StabL (ksB14a TX TY E7 nb us gb nbc er i) := stabL_cons (stab_is _) (stabL_cons (stab_is _) (stabL_cons (stab_is _) (stabL_cons (stab_is _) (stabL_cons (stab_is _) (stabL_cons (stab_is _) (stabL_cons (stab_is _) (stabL_cons (stab_is _) (stabL_cons (stab_is _) (stabL_cons (stab_is _) (stabL_cons (stab_bs _) (stabL_cons (stab_is _) (stabL_cons (stab_bs _) (stabL_cons (stab_is _) (stabL_cons (stab_is _) (stabL_cons (stab_is _) (stabL_cons (stab_is _) (stabL_cons (stab_is _) (stabL_cons (stab_is _) (stabL_cons (stab_is _) (stabL_cons (stab_is _) (stabL_cons (stab_is _) (stabL_cons (stab_is _) (stabL_cons (stab_is _) (stabL_cons (stab_is _) (stabL_cons (stab_is _) (stabL_cons (stab_is _) (stabL_cons (stab_is _) (stabL_cons (stab_is _) (stabL_cons (stab_is _) (stabL_cons (stab_is _) (stabL_cons (stab_is _) (stabL_cons (stab_is _) (stabL_cons (stab_is _) (stabL_cons (stab_is _) (stabL_cons (stab_is _) (stabL_cons (stab_is _) (stabL_cons (stab_is _) (stabL_nil))))))))))))))))))))))))))))))))))))))
def ksB14b (TX TY : Value) (E7 : List UInt8) (nb us gb nbc : Nat) (er : Int) (i : Nat) : List (World → Value → Prop) := [gIs (.int .i64 er), gIs (.int .i64 er), gIs (.bool false), gIs (.bool false), gIs (.int .i64 (us : Int)), gIs (.int .i64 (us : Int)), gIs (.bool false), gIs (.bool false), gIs (.bool false), gIs (TX), gBs E7, gIs (TY), gBs E7, gIs (.bool true), gIs (.bool false), gIs (.bool false), gIs (.bool false), gIs (.int .i64 1), gIs (.bool false), gIs (.bool false), gIs undef, gIs undef, gIs undef, gIs undef, gIs undef, gIs undef, gIs undef, gIs undef, gIs (.bool false), gIs (.bool false), gIs (.bool false), gIs (.int .i64 1), gIs (.bool true), gIs (.bool true), gIs (.int .i64 er), gIs (.bool false), gIs (.bool false), gIs (.bool false)]
theorem ksB14b_stab (TX TY : Value) (E7 : List UInt8) (nb us gb nbc : Nat) (er : Int) (i : Nat) : StabL (ksB14b TX TY E7 nb us gb nbc er i) := stabL_cons (stab_is _) (stabL_cons (stab_is _) (stabL_cons (stab_is _) (stabL_cons (stab_is _) (stabL_cons (stab_is _) (stabL_cons (stab_is _) (stabL_cons (stab_is _) (stabL_cons (stab_is _) (stabL_cons (stab_is _) (stabL_cons (stab_is _) (stabL_cons (stab_bs _) (stabL_cons (stab_is _) (stabL_cons (stab_bs _) (stabL_cons (stab_is _) (stabL_cons (stab_is _) (stabL_cons (stab_is _) (stabL_cons (stab_is _) (stabL_cons (stab_is _) (stabL_cons (stab_is _) (stabL_cons (stab_is _) (stabL_cons (stab_is _) (stabL_cons (stab_is _) (stabL_cons (stab_is _) (stabL_cons (stab_is _) (stabL_cons (stab_is _) (stabL_cons (stab_is _) (stabL_cons (stab_is _) (stabL_cons (stab_is _) (stabL_cons (stab_is _) (stabL_cons (stab_is _) (stabL_cons (stab_is _) (stabL_cons (stab_is _) (stabL_cons (stab_is _) (stabL_cons (stab_is _) (stabL_cons (stab_is _) (stabL_cons (stab_is _) (stabL_cons (stab_is _) (stabL_cons (stab_is _) (stabL_nil))))))))))))))))))))))))))))))))))))))
def ksB14c (TX TY : Value) (E7 : List UInt8) (nb us gb nbc : Nat) (er : Int) (i : Nat) : List (World → Value → Prop) := [gIs (.int .i64 er), gIs (.int .i64 er), gIs (.bool false), gIs (.bool false), gIs (.int .i64 (us : Int)), gIs (.int .i64 (us : Int)), gIs (.bool false), gIs (.bool false), gIs (.bool false), gIs (TX), gBs E7, gIs (TY), gBs E7, gIs (.bool true), gIs (.bool false), gIs (.bool false), gIs (.bool false), gIs (.int .i64 (i : Int)), gIs (.bool false), gIs (.bool false), gIs undef, gIs undef, gIs undef, gIs undef, gIs undef, gIs undef, gIs undef, gIs undef, gIs (.bool false), gIs (.bool false), gIs (.bool false), gIs (.int .i64 (i : Int)), gIs (.bool false), gIs (.bool false), gIs undef, gIs undef, gIs (.bool false), gIs (.bool false)]
theorem ksB14c_stab (TX TY : Value) (E7 : List UInt8) (nb us gb nbc : Nat) (er : Int) (i : Nat) : StabL (ksB14c TX TY E7 nb us gb nbc er i) := stabL_cons (stab_is _) (stabL_cons (stab_is _) (stabL_cons (stab_is _) (stabL_cons (stab_is _) (stabL_cons (stab_is _) (stabL_cons (stab_is _) (stabL_cons (stab_is _) (stabL_cons (stab_is _) (stabL_cons (stab_is _) (stabL_cons (stab_is _) (stabL_cons (stab_bs _) (stabL_cons (stab_is _) (stabL_cons (stab_bs _) (stabL_cons (stab_is _) (stabL_cons (stab_is _) (stabL_cons (stab_is _) (stabL_cons (stab_is _) (stabL_cons (stab_is _) (stabL_cons (stab_is _) (stabL_cons (stab_is _) (stabL_cons (stab_is _) (stabL_cons (stab_is _) (stabL_cons (stab_is _) (stabL_cons (stab_is _) (stabL_cons (stab_is _) (stabL_cons (stab_is _) (stabL_cons (stab_is _) (stabL_cons (stab_is _) (stabL_cons (stab_is _) (stabL_cons (stab_is _) (stabL_cons (stab_is _) (stabL_cons (stab_is _) (stabL_cons (stab_is _) (stabL_cons (stab_is _) (stabL_cons (stab_is _) (stabL_cons (stab_is _) (stabL_cons (stab_is _) (stabL_cons (stab_is _) (stabL_nil))))))))))))))))))))))))))))))))))))))
def ksB23 (TVu TVm ZV TX : Value) (i : Nat) (L : List Tb.Sp) : List (World → Value → Prop) := [gIs (TVu), gIs (ZV), gIs (TX), gIs (.int .i64 (i : Int)), gSps L, gSps L, gIs (TVm), gIs (ZV), gIs (TX), gIs (.int .i64 (i : Int)), gSps L, gSps L, gIs (.bool true), gIs (.bool false)]
theorem ksB23_stab (TVu TVm ZV TX : Value) (i : Nat) (L : List Tb.Sp) : StabL (ksB23 TVu TVm ZV TX i L) := stabL_cons (stab_is _) (stabL_cons (stab_is _) (stabL_cons (stab_is _) (stabL_cons (stab_is _) (stabL_cons (stab_sps _) (stabL_cons (stab_sps _) (stabL_cons (stab_is _) (stabL_cons (stab_is _) (stabL_cons (stab_is _) (stabL_cons (stab_is _) (stabL_cons (stab_sps _) (stabL_cons (stab_sps _) (stabL_cons (stab_is _) (stabL_cons (stab_is _) (stabL_nil))))))))))))))
set_option maxHeartbeats 16000000 in
set_option maxRecDepth 100000 in
theorem byteslaw_walk (n at_ how by_ : Int) (A4 : Option Addr) (c4 : Nat) (l4 : List Int) (A1 : Option Addr) (n1 c1 : Nat) (raw : List UInt8) (w : World) (hn : Wr.inI n) (hat : Wr.inI at_) (hhow : Wr.inI how) (hby : Wr.inI by_) (hr4 : IntsAt w w.heap.size A4 l4)
  (hr1 : Reads w w.heap.size 1 A1 n1 (BV raw)) (hn1 : n1 ≤ c1) (hA1 : A1 = none → c1 = 0) (hc1 : c1 ≤ maxLen) (hKL : KLaid w) (hRK : RKLaid w) (hT : TablesC n) (hL : LivesC) (hB : BentC) :
  Calls Tryd.prog 3 #[.int .i64 n, .int .i64 at_, .int .i64 how, .int .i64 by_, .slice A4 l4.length c4, .slice A1 n1 c1] w fun e w' => e = .returned (.bool true) ∧ Below w.heap.size w w' := by
 have CT := hide hT
 have CL := hide hL
 have CB := hide (fun (v : Value) (W : World) (h : gTab 40 W v) => hB 40 (by omega) v at_ how by_ W h hat hhow hby)
 have CS := hide (fun (W : World) (hb : Below w.heap.size w W) => syms_any A4 c4 l4 W ⟨(hr4.1.below hb).more hb.size, hr4.2⟩)
 have CFEW := hide (fun (most : Nat) (hm : most ≤ 1000) (W : World) (hb : Below w.heap.size w W) => refFewX_any A1 n1 c1 most raw W ((hr1.below hb).more hb.size) hn1 hA1 hc1 hm)
 have CAR := hide (fun (m : Nat) (hm : 0 < m) (hm2 : m ≤ 1099511627776) (W : World) => around_any by_ m W hby hm hm2)
 have HKL := hide hKL
 have HRK := hide hRK
 have HSY := hide (fun (u : Tb.Tab) (h : Nat) (hu : Tb.eT u = Tb.tablesT n) (p : Int) => steps_same (h := h) hu ⟨0, false, false⟩ l4 p)
 generalize Tb.symsT l4 = tx at *
 generalize l4.length = ln4 at *
 clear hr4 hr1 hA1 hc1 hKL hRK hT hL hB hat hhow hby hn
 go_enter Tryd.func3, Tryd.ntmps3
 go_upto_region 2 with (first
  | (go_at_call 5; refine (unhide CT w).mono ?_; rintro e w1 ⟨v, t, rfl, hta, hte, hb1⟩; have HTA := hide (show gTab 40 w1 v from ⟨t, hta, fit_tablesT hte⟩); have B1 := hide hb1; clear hta hb1 hte)
  | (go_at_call 4; refine (unhide CB v w1 HTA.out).mono ?_; rintro e w2 ⟨v', rfl, ⟨t', hta', hf'⟩, hb2⟩; have HTB := hide hta'; have HF := hide hf'; have B2 := hide (B1.out.trans (hb2.mono B1.out.size)); obtain ⟨A0, A0', c0, c0', rfl, htq⟩ := hta'; clear htq hf' hb2))
 refine name_world fun V hV => ?_
 have VT := hide (show Blk V w2.heap.size 29 #[.slice A0 t'.r0.length c0, .slice A0' t'.r1.length c0', .slice t'.dig.ad t'.dig.l.length t'.dig.c, .slice t'.cap.ad t'.cap.l.length t'.cap.c, .slice t'.num.ad t'.num.l.length t'.num.c, .slice t'.fin.ad t'.fin.l.length t'.fin.c, .slice t'.sw.ad t'.sw.l.length t'.sw.c] by rw [← hV.out]; exact Blk.new w2 _ _)
 have HV2 := hide (show Below w2.heap.size w2 V by rw [← hV.out]; exact below_alloc w2 _)
 have HVW := hide (B2.out.trans (HV2.out.mono B2.out.size))
 have HTV1 := hide ((HTB.out.below HV2.out).more HV2.out.size)
 have hgt := VT.out.lt
 obtain ⟨gt, hgte⟩ : ∃ gt, gt = w2.heap.size := ⟨_, rfl⟩
 rw [← hgte] at VT hgt ⊢
 clear hV CB HTA HTB HV2 B1 B2 hgte
 have hel : (Wr.encT (taOf t')).length ≤ 4000000000 := encT_bound HTV1.out HF.out (by omega)
 have HOK := hide (okT_of HTV1.out)
 obtain ⟨TV, hTV⟩ : ∃ TV : Value, TV = .agg #[.slice A0 t'.r0.length c0, .slice A0' t'.r1.length c0', .slice t'.dig.ad t'.dig.l.length t'.dig.c, .slice t'.cap.ad t'.cap.l.length t'.cap.c, .slice t'.num.ad t'.num.l.length t'.num.c, .slice t'.fin.ad t'.fin.l.length t'.fin.c, .slice t'.sw.ad t'.sw.l.length t'.sw.c] := ⟨_, rfl⟩
 have HTV := hide hTV.symm
 rw [← hTV] at HTV1
 have HTX := hide (fun (W : World) (hb : Below V.heap.size V W) => (show TabX W W.heap.size TV t' from ((HTV1.out.below hb).more hb.size).x))
 have CEN := hide (encode_any TV t' V HTV1.out.x (by omega))
 clear hTV
 generalize t'.r0.length = m0 at *
 generalize t'.r1.length = m1 at *
 generalize t'.dig.l.length = m2 at *
 generalize t'.cap.l.length = m3 at *
 generalize t'.num.l.length = m4 at *
 generalize t'.fin.l.length = m5 at *
 generalize t'.sw.l.length = m6 at *
 obtain ⟨E, hE⟩ : ∃ E, E = Wr.encT (taOf t') := ⟨_, rfl⟩
 have HE := hide hE
 rw [← hE] at CEN hel
 have hpos : 1 ≤ E.length := by have := Wr.codecTables.least _ HOK.out; rw [hE]; omega
 have HEL := hide (show E.length ≤ 1099511627776 by omega)
 have HEM := hide (show E.length ≤ 4000000000 from hel)
 clear hE hel
 have q0 := VT.out.cell 0
 have q1 := VT.out.cell 1
 have q2 := VT.out.cell 2
 have q3 := VT.out.cell 3
 have q4 := VT.out.cell 4
 have q5 := VT.out.cell 5
 have q6 := VT.out.cell 6
 simp only [List.getElem?_toArray, List.getElem?_cons_succ, List.getElem?_cons_zero] at q0 q1 q2 q3 q4 q5 q6
 have hti := HTV.out
 go_upto_region 3 with (go_at_call 6; (try rw [HTV.out]); refine (unhide CEN).mono ?_; rintro e B ⟨vb, rfl, hown, hb2⟩; have HOB := hide hown; have HVB := hide hb2; clear hown hb2)
 clear q0 q1 q2 q3 q4 q5 q6 hti CEN
 obtain ⟨gb, nbc, rfl, hcb, hrb⟩ := own_form HOB.out hpos
 have HRB := hide hrb
 obtain ⟨nb, hnb⟩ : ∃ nb, nb = E.length := ⟨_, rfl⟩
 have HNB := hide hnb
 rw [← hnb] at HRB hcb hpos ⊢
 have HPOS := hide hpos
 obtain ⟨BS, hBS⟩ : ∃ BS : Value, BS = .slice (some ⟨gb, 0, none⟩) nb nbc := ⟨_, rfl⟩
 have HBV := hide hBS
 have BT := hide (VT.out.below HVB.out hgt)
 have HTB := hide ((HTV1.out.below HVB.out).more HVB.out.size)
 have HWB := hide (HVW.out.trans (HVB.out.mono HVW.out.size))
 have HTC := hide (fun (W : World) (hb : Below B.heap.size B W) => (show W.cell? ⟨gt, 0, none⟩ = some (.slice A0 m0 c0) ∧ W.cell? ⟨gt, 1, none⟩ = some (.slice A0' m1 c0') ∧ W.cell? ⟨gt, 2, none⟩ = some (.slice t'.dig.ad m2 t'.dig.c) ∧ W.cell? ⟨gt, 3, none⟩ = some (.slice t'.cap.ad m3 t'.cap.c) ∧ W.cell? ⟨gt, 4, none⟩ = some (.slice t'.num.ad m4 t'.num.c) ∧ W.cell? ⟨gt, 5, none⟩ = some (.slice t'.fin.ad m5 t'.fin.c) ∧ W.cell? ⟨gt, 6, none⟩ = some (.slice t'.sw.ad m6 t'.sw.c) from by
  have Q := BT.out.below hb BT.out.lt
  exact ⟨Q.cell 0, Q.cell 1, Q.cell 2, Q.cell 3, Q.cell 4, Q.cell 5, Q.cell 6⟩))
 have CRE := hide (fun (W : World) (hb : Below B.heap.size B W) => (show Calls Tryd.prog 8 #[TV] W fun e w' => ∃ v, e = .returned v ∧ gBs E w' v ∧ Below W.heap.size W w' from by
  refine (refEncode_any TV t' W ((HTB.out.below hb).more hb.size).x (by rw [← HE.out]; have := HEM.out; omega)).mono ?_
  rintro e w' ⟨u, rfl, ho, hb2⟩
  rw [← HE.out] at ho
  exact ⟨u, rfl, gBs_own ho, hb2⟩))
 have hdl : (digT t').length = 16 := digestOf_len _
 obtain ⟨DD, hDD⟩ : ∃ DD, DD = digT t' := ⟨_, rfl⟩
 obtain ⟨DV, hDV⟩ : ∃ DV : Value, DV = .agg (BV DD).toArray := ⟨_, rfl⟩
 have HDV0 := hide hDV
 have hDE : digestOf (inputOf 8 [E]) = DD := by rw [hDD, HE.out]; rfl
 have CDI := hide (fun (W : World) (hb : Below B.heap.size B W) => (show Calls Tryd.prog 9 #[TV] W fun e w' => e = .returned DV ∧ Below W.heap.size W w' from by
  rw [hDV, hDD]
  exact digest_any TV t' W ((HTB.out.below hb).more hb.size).x (by rw [← HE.out]; have := HEM.out; omega) (HKL.out.below (HWB.out.trans (hb.mono HWB.out.size)) (Nat.le_refl _))))
 have CRD := hide (fun (W : World) (hb : Below B.heap.size B W) => (show Calls Tryd.prog 10 #[TV] W fun e w' => e = .returned DV ∧ Below W.heap.size W w' from by
  rw [hDV, hDD]
  exact refDigestT_any TV t' W ((HTB.out.below hb).more hb.size).x (by rw [← HE.out]; have := HEM.out; omega) (HRK.out.below (HWB.out.trans (hb.mono HWB.out.size)) (Nat.le_refl _))))
 have COF := hide (fun (W : World) (v : Value) (hv : gRow 9 [.string (S E)] W v) (hb : Below B.heap.size B W) => (show Calls Tryd.prog 11 #[.int .i64 8, v] W fun e w' => e = .returned DV ∧ Below W.heap.size W w' from by
  rw [hDV, ← hDE]
  exact of_call E v W hv (by have := HEM.out; omega) (HKL.out.below (HWB.out.trans (hb.mono HWB.out.size)) (Nat.le_refl _))))
 have HSD := hide (fun (W : World) => sameD DD (by rw [hDD]; exact hdl) W)
 obtain ⟨dd, hdd⟩ : ∃ dd, dd = (BV DD).toArray := ⟨_, rfl⟩
 have HDV := hide (show DV = .agg dd by rw [hDV, hdd])
 rw [← hdd] at HSD
 have HBS := hide (fun (W : World) (hb : Below B.heap.size B W) => (show gBs E W BS from ⟨some ⟨gb, 0, none⟩, nbc, by rw [hBS, HNB.out], by rw [← HNB.out]; exact (HRB.out.below hb).more hb.size⟩))
 have HCV := hide (fun (W : World) (hb : Below B.heap.size B W) => (show (convert 23 9 (.slice (some ⟨gb, 0, none⟩) nb nbc)).run Tryd.prog W = .ok (.string (S E)) W from run_conv_reads (P := Tryd.prog) (HRB.out.below hb) _ _ _ _ Tryd.underlying23 Tryd.underlying5 Tryd.underlying9))
 have HBB := hide (Below.refl B.heap.size B)
 have hne : ((nb : Int) == 0) = false := by rw [beq_eq_false_iff_ne]; have := HPOS.out; omega
 clear hdd hDE hDV hDD hdl hrb hnb VT HTV1 HVB hgt
 rw [← hBS]
 clear hBS
 refine wp_region_all [some 37, some 38, some 39, some 40, some 41, some 42, some 43, some 44, some 45, some 46, some 47, some 48, some 49, some 50, some 51, some 52, some 53, some 54, some 55, some 56, some 57, some 58, some 59, some 60, some 61, some 62] (gAll (ksB3 BS TV DV nb E)) (fun W => Below B.heap.size B W)
  (by kernel_rfl) (by kernel_rfl) (by rfl) (by decide) (by rfl) HBB.out.drew ?_ ?_
 ·intro j hj A x W hC hd hr
  have stay : ∀ W', Below W.heap.size W W' → Below B.heap.size B W' := fun W' hb => hC.trans (hb.mono hC.size)
  have KSS := ksB3_stab BS TV DV nb E
  have hj' : j = 0 ∨ j = 1 ∨ j = 2 ∨ j = 3 ∨ j = 4 ∨ j = 5 ∨ j = 6 ∨ j = 7 ∨ j = 8 ∨ j = 9 ∨ j = 10 ∨ j = 11 ∨ j = 12 ∨ j = 13 ∨ j = 14 ∨ j = 15 ∨ j = 16 ∨ j = 17 ∨ j = 18 ∨ j = 19 ∨ j = 20 ∨ j = 21 ∨ j = 22 ∨ j = 23 ∨ j = 24 ∨ j = 25 := by
   have hn : j < 26 := hj
   omega
  rcases hj' with rfl | rfl | rfl | rfl | rfl | rfl | rfl | rfl | rfl | rfl | rfl | rfl | rfl | rfl | rfl | rfl | rfl | rfl | rfl | rfl | rfl | rfl | rfl | rfl | rfl | rfl
  ·have e14 : A.tmps[14]?.getD undef = BS := hr 14 (by decide)
   refine wpOp_step rfl (fun K' hK => ?_)
   go_simp
   exact hK _ _ ⟨_, rfl, rfl, fun _ _ _ h => h, hC⟩
  ·have d0 : A.tmps[37]?.getD undef = BS := fI hd 0 37
   refine wpOp_step rfl (fun K' hK => ?_)
   rw [HBV.out] at d0
   go_simp
   exact hK _ _ ⟨_, rfl, rfl, fun _ _ _ h => h, hC⟩
  ·have d1 : A.tmps[38]?.getD undef = .int .i64 (nb : Int) := fI hd 1 38
   refine wpOp_step rfl (fun K' hK => ?_)
   go_simp
   exact hK _ _ ⟨_, rfl, rfl, fun _ _ _ h => h, hC⟩
  ·have d2 : A.tmps[39]?.getD undef = .bool false := fI hd 2 39
   refine wpOp_step rfl (fun K' hK => ?_)
   go_simp
   exact hK _ _ ⟨_, rfl, rfl, fun _ _ _ h => h, hC⟩
  ·have e14 : A.tmps[14]?.getD undef = BS := hr 14 (by decide)
   have d3 : A.tmps[40]?.getD undef = .bool false := fI hd 3 40
   refine wpOp_step rfl (fun K' hK => ?_)
   rw [if_pos (wanted_of 3 40 false rfl rfl d3)]
   go_simp
   exact hK _ _ ⟨_, rfl, rfl, fun _ _ _ h => h, hC⟩
  ·have e13 : A.tmps[13]?.getD undef = .pointer (some ⟨gt, 0, none⟩) := hr 13 (by decide)
   have d3 : A.tmps[40]?.getD undef = .bool false := fI hd 3 40
   refine wpOp_step rfl (fun K' hK => ?_)
   rw [if_pos (wanted_of 3 40 false rfl rfl d3)]
   obtain ⟨t0, t1, t2, t3, t4, t5, t6⟩ := HTC.out W hC
   go_simp
   exact hK _ _ ⟨_, rfl, HTV.out, fun _ _ _ h => h, hC⟩
  ·have d5 : A.tmps[42]?.getD undef = TV := fI hd 5 42
   have d3 : A.tmps[40]?.getD undef = .bool false := fI hd 3 40
   refine wpOp_step rfl (fun K' hK => ?_)
   rw [if_pos (wanted_of 3 40 false rfl rfl d3)]
   go_simp
   go_at_call 8
   refine (CRE.out W hC).mono ?_
   rintro e W' ⟨v, rfl, hv, hb⟩
   exact hK _ _ ⟨_, rfl, hv, fun k' _ u h => gAll_below KSS hb k' u h, stay _ hb⟩
  ·have d4 : A.tmps[41]?.getD undef = BS := fI hd 4 41
   have d6 : A.tmps[43]?.getD undef = x 6 := (hd 6 (by decide)).1 43 rfl
   have r6 : gBs E W (x 6) := (hd 6 (by decide)).2
   have d3 : A.tmps[40]?.getD undef = .bool false := fI hd 3 40
   refine wpOp_step rfl (fun K' hK => ?_)
   rw [if_pos (wanted_of 3 40 false rfl rfl d3)]
   go_simp
   go_at_call 7
   refine (sameBs_call E _ _ W (HBS.out W hC) r6 HEL.out).mono ?_
   rintro e W' ⟨rfl, hb⟩
   exact hK _ _ ⟨_, rfl, rfl, fun k' _ u h => gAll_below KSS hb k' u h, stay _ hb⟩
  ·have d7 : A.tmps[44]?.getD undef = .bool true := fI hd 7 44
   have d3 : A.tmps[40]?.getD undef = .bool false := fI hd 3 40
   refine wpOp_step rfl (fun K' hK => ?_)
   rw [if_pos (wanted_of 3 40 false rfl rfl d3)]
   go_simp
   exact hK _ _ ⟨_, rfl, rfl, fun _ _ _ h => h, hC⟩
  ·have d3 : A.tmps[40]?.getD undef = .bool false := fI hd 3 40
   have d8 : A.tmps[45]?.getD undef = .bool false := fI hd 8 45
   refine wpOp_step rfl (fun K' hK => ?_)
   go_simp
   exact hK _ _ ⟨_, rfl, rfl, fun _ _ _ h => h, hC⟩
  ·have d9 : A.tmps[46]?.getD undef = .bool false := fI hd 9 46
   refine wpOp_step rfl (fun K' hK => ?_)
   go_simp
   exact hK _ _ ⟨_, rfl, rfl, fun _ _ _ h => h, hC⟩
  ·have e13 : A.tmps[13]?.getD undef = .pointer (some ⟨gt, 0, none⟩) := hr 13 (by decide)
   have d10 : A.tmps[47]?.getD undef = .bool false := fI hd 10 47
   refine wpOp_step rfl (fun K' hK => ?_)
   rw [if_pos (wanted_of 10 47 false rfl rfl d10)]
   obtain ⟨t0, t1, t2, t3, t4, t5, t6⟩ := HTC.out W hC
   go_simp
   exact hK _ _ ⟨_, rfl, HTV.out, fun _ _ _ h => h, hC⟩
  ·have d11 : A.tmps[48]?.getD undef = TV := fI hd 11 48
   have d10 : A.tmps[47]?.getD undef = .bool false := fI hd 10 47
   refine wpOp_step rfl (fun K' hK => ?_)
   rw [if_pos (wanted_of 10 47 false rfl rfl d10)]
   go_simp
   go_at_call 9
   refine (CDI.out W hC).mono ?_
   rintro e W' ⟨rfl, hb⟩
   exact hK _ _ ⟨_, rfl, rfl, fun k' _ u h => gAll_below KSS hb k' u h, stay _ hb⟩
  ·have e13 : A.tmps[13]?.getD undef = .pointer (some ⟨gt, 0, none⟩) := hr 13 (by decide)
   have d10 : A.tmps[47]?.getD undef = .bool false := fI hd 10 47
   refine wpOp_step rfl (fun K' hK => ?_)
   rw [if_pos (wanted_of 10 47 false rfl rfl d10)]
   obtain ⟨t0, t1, t2, t3, t4, t5, t6⟩ := HTC.out W hC
   go_simp
   exact hK _ _ ⟨_, rfl, HTV.out, fun _ _ _ h => h, hC⟩
  ·have d13 : A.tmps[50]?.getD undef = TV := fI hd 13 50
   have d10 : A.tmps[47]?.getD undef = .bool false := fI hd 10 47
   refine wpOp_step rfl (fun K' hK => ?_)
   rw [if_pos (wanted_of 10 47 false rfl rfl d10)]
   go_simp
   go_at_call 10
   refine (CRD.out W hC).mono ?_
   rintro e W' ⟨rfl, hb⟩
   exact hK _ _ ⟨_, rfl, rfl, fun k' _ u h => gAll_below KSS hb k' u h, stay _ hb⟩
  ·have d12 : A.tmps[49]?.getD undef = DV := fI hd 12 49
   have d14 : A.tmps[51]?.getD undef = DV := fI hd 14 51
   have d10 : A.tmps[47]?.getD undef = .bool false := fI hd 10 47
   refine wpOp_step rfl (fun K' hK => ?_)
   rw [if_pos (wanted_of 10 47 false rfl rfl d10)]
   have hgd := guardD
   have hsame := HSD.out W
   rw [HDV.out] at d12 d14
   go_simp
   exact hK _ _ ⟨_, rfl, rfl, fun _ _ _ h => h, hC⟩
  ·have d10 : A.tmps[47]?.getD undef = .bool false := fI hd 10 47
   have d15 : A.tmps[52]?.getD undef = .bool false := fI hd 15 52
   refine wpOp_step rfl (fun K' hK => ?_)
   go_simp
   exact hK _ _ ⟨_, rfl, rfl, fun _ _ _ h => h, hC⟩
  ·have d16 : A.tmps[53]?.getD undef = .bool false := fI hd 16 53
   refine wpOp_step rfl (fun K' hK => ?_)
   go_simp
   exact hK _ _ ⟨_, rfl, rfl, fun _ _ _ h => h, hC⟩
  ·have e13 : A.tmps[13]?.getD undef = .pointer (some ⟨gt, 0, none⟩) := hr 13 (by decide)
   have d17 : A.tmps[54]?.getD undef = .bool false := fI hd 17 54
   refine wpOp_step rfl (fun K' hK => ?_)
   rw [if_pos (wanted_of 17 54 false rfl rfl d17)]
   obtain ⟨t0, t1, t2, t3, t4, t5, t6⟩ := HTC.out W hC
   go_simp
   exact hK _ _ ⟨_, rfl, HTV.out, fun _ _ _ h => h, hC⟩
  ·have d18 : A.tmps[55]?.getD undef = TV := fI hd 18 55
   have d17 : A.tmps[54]?.getD undef = .bool false := fI hd 17 54
   refine wpOp_step rfl (fun K' hK => ?_)
   rw [if_pos (wanted_of 17 54 false rfl rfl d17)]
   go_simp
   go_at_call 9
   refine (CDI.out W hC).mono ?_
   rintro e W' ⟨rfl, hb⟩
   exact hK _ _ ⟨_, rfl, rfl, fun k' _ u h => gAll_below KSS hb k' u h, stay _ hb⟩
  ·have e14 : A.tmps[14]?.getD undef = BS := hr 14 (by decide)
   have d17 : A.tmps[54]?.getD undef = .bool false := fI hd 17 54
   refine wpOp_step rfl (fun K' hK => ?_)
   rw [if_pos (wanted_of 17 54 false rfl rfl d17)]
   go_simp
   exact hK _ _ ⟨_, rfl, rfl, fun _ _ _ h => h, hC⟩
  ·have d20 : A.tmps[57]?.getD undef = BS := fI hd 20 57
   have d17 : A.tmps[54]?.getD undef = .bool false := fI hd 17 54
   refine wpOp_step rfl (fun K' hK => ?_)
   rw [if_pos (wanted_of 17 54 false rfl rfl d17)]
   have hcv := HCV.out W hC
   rw [HBV.out] at d20
   go_simp
   exact hK _ _ ⟨_, rfl, rfl, fun _ _ _ h => h, hC⟩
  ·have d21 : A.tmps[58]?.getD undef = .string (S E) := fI hd 21 58
   have d17 : A.tmps[54]?.getD undef = .bool false := fI hd 17 54
   refine wpOp_step rfl (fun K' hK => ?_)
   rw [if_pos (wanted_of 17 54 false rfl rfl d17)]
   go_simp
   exact hK _ _ ⟨_, rfl, ⟨W.heap.size, rfl, Blk.new W _ _⟩, fun k' _ u h => gAll_below KSS (below_alloc W _) k' u h, stay _ (below_alloc W _)⟩
  ·have d22 : A.tmps[59]?.getD undef = x 22 := (hd 22 (by decide)).1 59 rfl
   have r22 : gRow 9 [.string (S E)] W (x 22) := (hd 22 (by decide)).2
   have d17 : A.tmps[54]?.getD undef = .bool false := fI hd 17 54
   refine wpOp_step rfl (fun K' hK => ?_)
   rw [if_pos (wanted_of 17 54 false rfl rfl d17)]
   go_simp
   go_at_call 11
   refine (COF.out W (x 22) r22 hC).mono ?_
   rintro e W' ⟨rfl, hb⟩
   exact hK _ _ ⟨_, rfl, rfl, fun k' _ u h => gAll_below KSS hb k' u h, stay _ hb⟩
  ·have d19 : A.tmps[56]?.getD undef = DV := fI hd 19 56
   have d23 : A.tmps[60]?.getD undef = DV := fI hd 23 60
   have d17 : A.tmps[54]?.getD undef = .bool false := fI hd 17 54
   refine wpOp_step rfl (fun K' hK => ?_)
   rw [if_pos (wanted_of 17 54 false rfl rfl d17)]
   have hgd := guardD
   have hsame := HSD.out W
   rw [HDV.out] at d19 d23
   go_simp
   exact hK _ _ ⟨_, rfl, rfl, fun _ _ _ h => h, hC⟩
  ·have d17 : A.tmps[54]?.getD undef = .bool false := fI hd 17 54
   have d24 : A.tmps[61]?.getD undef = .bool false := fI hd 24 61
   refine wpOp_step rfl (fun K' hK => ?_)
   go_simp
   exact hK _ _ ⟨_, rfl, rfl, fun _ _ _ h => h, hC⟩
 ·intro x W hC hR
  have h25 : x 25 = .bool false := hR 25 (by decide)
  simp only [putL, Act.put, Nat.zero_add, Nat.reduceAdd, List.setIfInBounds_toArray, List.set_cons_succ, List.set_cons_zero]
  generalize x 0 = xx0
  generalize x 1 = xx1
  generalize x 2 = xx2
  generalize x 3 = xx3
  generalize x 4 = xx4
  generalize x 5 = xx5
  generalize x 6 = xx6
  generalize x 7 = xx7
  generalize x 8 = xx8
  generalize x 9 = xx9
  generalize x 10 = xx10
  generalize x 11 = xx11
  generalize x 12 = xx12
  generalize x 13 = xx13
  generalize x 14 = xx14
  generalize x 15 = xx15
  generalize x 16 = xx16
  generalize x 17 = xx17
  generalize x 18 = xx18
  generalize x 19 = xx19
  generalize x 20 = xx20
  generalize x 21 = xx21
  generalize x 22 = xx22
  generalize x 23 = xx23
  generalize x 24 = xx24
  rw [h25]
  clear hR h25
  have HB3 := hide hC
  clear hC
  obtain ⟨B2, rfl⟩ : ∃ B2, B2 = W := ⟨W, rfl⟩
  have HRB2 := hide ((HRB.out.below HB3.out).more HB3.out.size)
  have HW2 := hide (HWB.out.trans (HB3.out.mono HWB.out.size))
  obtain ⟨i0, hi, hz0, hz1, hz2⟩ := info_parts byteInfo
  have HI := hide hi
  have HZ0 := hide hz0
  have HZ1 := hide hz1
  have HZ2 := hide hz2
  rw [HBV.out]
  clear hi hz0 hz1 hz2 CRE CDI CRD COF HSD HDV HDV0 HBS HCV HTC HTB HTX HTV BT hne
  generalize xx0 = xx0 at *
  have hnl : nb ≤ 4000000000 := by rw [HNB.out]; exact HEM.out
  have hpos : 1 ≤ nb := HPOS.out
  have CA := hide (unhide CAR nb (by omega) (by omega) B2)
  have hk := Ce.around_lt by_ nb (by omega)
  generalize Ce.around by_ nb = k at *
  clear CAR
  go_upto_region 6 with (go_at_call 12; refine (unhide CA).mono ?_; rintro e x4 ⟨rfl, rfl⟩)
  have HR3 := hide (HRB2.out.alloc (Nat.le_refl _) (.cells #[] 5))
  clear CA
  have hkc : (k : Int) ≤ (nbc : Int) := by omega
  go_upto_region 7 with (at_builtin; refine wpList_append_any _ rfl (.tmp 67) (.tmp 68) 23 rfl B2.heap.size 5 i0 (.int .u8 0) 1 1 Tryd.underlying23 HI.out HZ0.out HZ1.out HZ2.out rfl (by omega) _ 0 [] rfl (own_empty B2) _ (some ⟨gb, 0, none⟩) nb nbc (BV E) rfl HR3.out (BV_one E) (by unfold maxLen; omega) (by omega) (by simp) ?_; intro v5 w5 hown5 hgrow5 hat5; have HO5 := hide hown5; have HB5 := hide ((below_alloc B2 _).trans (below_grown hgrow5 (own_empty B2) (by simp))); clear hown5 hgrow5 hat5)
  rw [Nat.zero_add, List.nil_append] at HO5
  obtain ⟨g5, c5, rfl, hc5, hr5⟩ := own_form HO5.out hpos
  obtain ⟨bt, hbt⟩ : ∃ bt : UInt8, IntKind.u8.wrap at_ = ((bt.toNat : Nat) : Int) := ⟨_, byte_wrap at_⟩
  have hst := HO5.out.stored k (.int .u8 ((bt.toNat : Nat) : Int))
  have hel5 : k < (BV E).length := by rw [BV_len]; have := HNB.out; omega
  have hcp : w5.cell? ⟨g5, k, none⟩ = some ((BV E)[k]) := by rw [HO5.out.cellAt k (by omega), List.getElem?_eq_getElem hel5]
  have hfz := HO5.out.frozenAt k
  generalize (BV E)[k] = old at *
  have hk0 : (0 : Int) ≤ (k : Int) := by omega
  have hk1 : (k : Int) < (nb : Int) := by omega
  have HBE := hide (show (BV E).set k (.int .u8 ((bt.toNat : Nat) : Int)) = BV (E.set k bt) by unfold BV; rw [List.map_set])
  rw [HBE.out] at hst
  have HO6 := hide hst.1
  have HB6 := hide (show Below B2.heap.size B2 (w5.setCell ⟨g5, k, none⟩ (.int .u8 ((bt.toNat : Nat) : Int))) from HB5.out.setCell (by have := (HO5.out.lt g5 rfl).1; show B2.heap.size ≤ g5; omega) _)
  clear hst hr5 hel5
  go_upto_region 8 with fail
  refine name_world fun X hX => ?_
  rw [hX.out] at HO6 HB6
  clear hX hcp hfz
  have HWX := hide (HW2.out.trans (HB6.out.mono HW2.out.size))
  have HRBX := hide ((HRB2.out.below HB6.out).more HB6.out.size)
  clear HO5 HB5 HR3
  obtain ⟨f1, hf1⟩ : ∃ f1, f1 = min n1 9 := ⟨_, rfl⟩
  obtain ⟨f2, hf2⟩ : ∃ f2, f2 = min n1 60 := ⟨_, rfl⟩
  have CF1 := hide (unhide CFEW 9 (by omega))
  have CF2 := hide (unhide CFEW 60 (by omega))
  rw [← hf1, show ((9 : Nat) : Int) = 9 from rfl] at CF1
  rw [← hf2, show ((60 : Nat) : Int) = 60 from rfl] at CF2
  have hf1l : f1 ≤ 9 := by omega
  have hf2l : f2 ≤ 60 := by omega
  have HF12 := hide (And.intro hf1l hf2l)
  clear hf1 hf2 CFEW
  have hkcn : k ≤ nbc := by omega
  have hknc : ¬ ((nbc : Int) < (k : Int)) := by omega
  go_cut [17] (fun s17 wx => ∃ (g : Nat) (B0 : Option Addr) (d0 : Nat) (B3 : Option Addr) (d3 : Nat), s17 = .slice (some ⟨g, 0, none⟩) 4 4 ∧ Blk wx g 23 #[.slice B0 (nb + f1) d0, .slice (some ⟨gb, 0, none⟩) k nbc, .slice (some ⟨g5, 0, none⟩) nb c5, .slice B3 f2 d3] ∧ (nb + f1 ≤ d0 ∧ (B0 = none → d0 = 0)) ∧ (f2 ≤ d3 ∧ (B3 = none → d3 = 0)) ∧ Reads wx wx.heap.size 1 B0 (nb + f1) (BV (E ++ raw.take f1)) ∧ Reads wx wx.heap.size 1 B3 f2 (BV (raw.take f2)) ∧ Below X.heap.size X wx)
  case first =>
   go_region_law (first
    | (refine step_append_any _ (by rfl) (.tmp 75) (.tmp 76) 23 (by rfl) X.heap.size 5 i0 (.int .u8 0) 1 1 Tryd.underlying23 HI.out HZ0.out HZ1.out HZ2.out rfl (by omega) (.slice (some ⟨X.heap.size, 0, none⟩) 0 0) 0 [] (by rfl) (by exact own_empty X) X.heap.size (some ⟨gb, 0, none⟩) nb nbc (BV E) (by rfl) (by exact HRBX.out.alloc (Nat.le_refl _) _) (BV_one E) (by unfold maxLen; omega) (by omega) (by show X.heap.size ≤ (X.alloc _).heap.size; simp) ?_; intro v6 w6 hown6 hgrow6 hat6; have HO6 := hide hown6; have HB6 := hide (show Below X.heap.size X w6 from ((below_alloc X (.cells #[] 5)).drew.trans (below_grown hgrow6 (show World.ownsRow _ _ _ _ _ _ _ from own_empty X) (by show X.heap.size ≤ (X.alloc _).heap.size; simp)))); clear hown6 hgrow6 hat6)
    | (go_simp; go_at_call 13; (with_reducible refine (unhide CF1 w6 (HWX.out.trans (HB6.out.mono HWX.out.size))).mono ?_); rintro e w7 ⟨v7, rfl, ho7, hb7⟩; obtain ⟨B7, d7, rfl, hd7, _, hr7⟩ := own_opt ho7; have HR7 := hide hr7; have HD7 := hide hd7; have HB7 := hide (HB6.out.trans (hb7.mono HB6.out.size)); have HO7 := hide (own_below HO6.out hb7); clear hr7 hd7 hb7 ho7)
    | (refine step_append_any _ (by rfl) (.tmp 77) (.tmp 79) 23 (by rfl) X.heap.size 5 i0 (.int .u8 0) 1 1 Tryd.underlying23 HI.out HZ0.out HZ1.out HZ2.out rfl (by omega) v6 (0 + nb) ([] ++ BV E) (by rfl) (by exact HO7.out) w7.heap.size B7 f1 d7 (BV (raw.take f1)) (by rfl) (by exact HR7.out) (BV_one _) (by unfold maxLen; omega) (by omega) (by have := HB7.out.size; exact this) ?_; intro v8 w8 hown8 hgrow8 hat8; obtain ⟨B8, c8, rfl, hc8, hA8, _⟩ := own_opt hown8; have HC8 := hide (And.intro hc8 hA8); clear hc8 hA8; have HO8 := hide hown8; have HB8 := hide (show Below X.heap.size X w8 from HB7.out.trans (below_grown hgrow8 (show World.ownsRow _ _ _ _ _ _ _ from HO7.out) HB7.out.size)); clear hown8 hgrow8 hat8)
    | (go_simp; go_at_call 13; (with_reducible refine (unhide CF2 w8 (HWX.out.trans (HB8.out.mono HWX.out.size))).mono ?_); rintro e w9 ⟨v9, rfl, ho9, hb9⟩; obtain ⟨B9, d9, rfl, hd9, hA9, hr9⟩ := own_opt ho9; have HR9 := hide hr9; have HD9 := hide (And.intro hd9 hA9); have HB9 := hide (HB8.out.trans (hb9.mono HB8.out.size)); have HO9 := hide (own_below HO8.out hb9); clear hr9 hd9 hA9 hb9 ho9))
   all_goals
    go_wp2
    go_meet
    have hb9s := HB9.out.size
    have e8 : 0 + nb + f1 = nb + f1 := by omega
    have h8 := Reads.of_own HO9.out
    rw [List.nil_append, ← BV_append, e8] at h8
    have h8c := HC8.out
    rw [e8] at h8c
    refine ⟨w9.heap.size, B8, c8, B9, d9, rfl, ?_, h8c, HD9.out, ?_, ?_, ?_⟩
    ·first | exact Blk.new w9 _ _ | exact (Blk.new w9 _ _).drew
    ·first | exact (h8.alloc (Nat.le_refl _) _).more (by simp) | exact ((h8.alloc (Nat.le_refl _) _).more (by simp)).drew
    ·first | exact (HR9.out.alloc (Nat.le_refl _) _).more (by simp) | exact ((HR9.out.alloc (Nat.le_refl _) _).more (by simp)).drew
    ·first | exact HB9.out.trans (below_alloc' w9 _ hb9s) | exact (HB9.out.trans (below_alloc' w9 _ hb9s)).drew
  case rest =>
   obtain ⟨g, B0, d0, B3, d3, rfl, hblk, hd0, hd3, hr0, hr3, hbel⟩ := hcut
   obtain ⟨Z, rfl⟩ : ∃ Z, Z = wc := ⟨wc, rfl⟩
   have HZK := hide hblk
   have hgz := hblk.lt
   have HWZ := hide (HWX.out.trans (hbel.mono HWX.out.size))
   have HRBZ := hide ((HRBX.out.below hbel).more hbel.size)
   have HR5 := hide (((Reads.of_own HO6.out).below hbel).more hbel.size)
   have HTT := hide (show ∀ i, i < 4 → ∃ (B : Option Addr) (m c : Nat) (t : List UInt8), (#[.slice B0 (nb + f1) d0, .slice (some ⟨gb, 0, none⟩) k nbc, .slice (some ⟨g5, 0, none⟩) nb c5, .slice B3 f2 d3] : Array Value)[i]? = some (.slice B m c) ∧ Reads Z Z.heap.size 1 B m (BV t) ∧ (B = none → c = 0) ∧ m ≤ 5000000000 ∧ m ≤ c ∧ (i = 0 → t = E ++ raw.take f1) ∧ (i = 1 → t = E.take k) by
    intro i hi
    obtain rfl | rfl | rfl | rfl : i = 0 ∨ i = 1 ∨ i = 2 ∨ i = 3 := by omega
    ·exact ⟨_, _, _, _, rfl, hr0, hd0.2, by omega, hd0.1, fun _ => rfl, fun h => absurd h (by omega)⟩
    ·exact ⟨_, _, _, E.take k, rfl, by have h := reads_take HRBZ.out k (by omega); rwa [show (BV E).take k = BV (E.take k) from List.map_take.symm] at h, (fun h => by cases h), by omega, by omega, fun h => absurd h (by omega), fun _ => rfl⟩
    ·exact ⟨_, _, _, _, rfl, HR5.out, (fun h => by cases h), by omega, hc5, fun h => absurd h (by omega), fun h => absurd h (by omega)⟩
    ·exact ⟨_, _, _, _, rfl, hr3, hd3.2, by omega, hd3.1, fun h => absurd h (by omega), fun h => absurd h (by omega)⟩)
   have HZZ := hide (Below.refl Z.heap.size Z)
   clear hblk hbel hr0 hr3 hd0 hd3 CF1 CF2 HRBZ HR5 HRBX HWX HW2 HRB2 HB6 HO6 HB3 hkc hkcn hknc hk0 hk1
   have HKNB := hide hk
   clear hk
   go_wp2
   have HPOSK := hide (And.intro hpos hnl)
   clear hpos hnl
   go_loopw [18] (fun s18 wr => ∃ i : Nat, i ≤ 4 ∧ s18 = .int .i64 (i : Int) ∧ Below Z.heap.size Z wr) (fun s18 _ => 4 - (intOf s18).toNat)
   case atStart => exact ⟨0, by omega, rfl, HZZ.out⟩
   case round =>
    obtain ⟨i, hi, rfl, hbel⟩ := hrel
    obtain ⟨wd, rfl⟩ : ∃ wd, wd = wr := ⟨wr, rfl⟩
    have HB := hide hbel
    by_cases hlt : i < 4
    ·obtain ⟨B, m, c, t, hcl, hrt, hBc, hm5, hmc, ht0, ht1⟩ := HTT.out i hlt
     have htl : m = t.length := by have := hrt.1; rw [BV_len] at this; omega
     have hblk := HZK.out.below hbel hgz
     have hcq : wd.cell? ⟨g, i, none⟩ = some (.slice B m c) := by rw [hblk.cell]; exact hcl
     have HBK := hide hblk
     have HCL := hide hcl
     have hi0 : (0 : Int) ≤ (i : Int) := by omega
     have hi4 : (i : Int) < 4 := by omega
     have HLT := hide hlt
     have C1 := hide (decodeT_opt B m c t wd hBc ((hrt.below hbel).more hbel.size) (by omega) hmc)
     have C2 := hide (fun (W : World) (hb : Below Z.heap.size Z W) => refDecodeT_opt B m c t W hBc ((hrt.below hb).more hb.size) (by omega) hmc)
     have HD0 := hide (show i = 0 → (Wr.decT t).2.2 = 0 ∧ (Wr.decT t).2.1 = nb from fun h => by
      rw [ht0 h, HE.out, Wr.codecTables.full (taOf t') (raw.take f1) HOK.out]
      exact ⟨rfl, by rw [HNB.out, HE.out]⟩)
     have HD1 := hide (show i = 1 → (Wr.decT t).2.2 ≠ 0 from fun h => by
      rw [ht1 h, HE.out, Wr.codecTables.short (taOf t') k HOK.out (by rw [← HE.out, ← HNB.out]; exact HKNB.out)]
      decide)
     have HDL := hide (fun (q : Tb.Tab) (h1 : (Wr.decT t).2.2 = 0 → taOf q = (Wr.decT t).1) (h2 : (Wr.decT t).2.2 ≠ 0 → q = nilTab) => (show (Wr.encT (taOf q)).length ≤ 5000000100 from by have := decoded_len h1 h2; omega))
     have HDS := hide (fun (q r : Tb.Tab) (h1 : (Wr.decT t).2.2 = 0 → taOf q = (Wr.decT t).1) (h2 : (Wr.decT t).2.2 ≠ 0 → q = nilTab) (h3 : (Wr.decT t).2.2 = 0 → taOf r = (Wr.decT t).1) (h4 : (Wr.decT t).2.2 ≠ 0 → r = nilTab) => decoded_same h1 h2 h3 h4)
     generalize (Wr.decT t).1 = dt at *
     generalize hus : (Wr.decT t).2.1 = us at *
     generalize her : (Wr.decT t).2.2 = er at *
     clear hblk hbel hcl hrt ht0 ht1 htl hBc hm5 hmc hlt hus her
     go_upto_region 13 with (go_at_call 14; refine (unhide C1).mono ?_; rintro e y1 ⟨v7, t7, rfl, htx7, h71, h72, hb⟩; have HX7 := hide htx7; have H71 := hide h71; have H72 := hide h72; have HY1 := hide (HB.out.trans (hb.mono HB.out.size)); have HB1 := hide hb; obtain ⟨Aq7, Bq7, cq7, dq7, rfl, _⟩ := htx7; clear hb h71 h72)
     refine name_world fun Y1 hY1 => ?_
     have X1Q := hide (show Blk Y1 y1.heap.size 29 #[.slice Aq7 t7.r0.length cq7, .slice Bq7 t7.r1.length dq7, .slice t7.dig.ad t7.dig.l.length t7.dig.c, .slice t7.cap.ad t7.cap.l.length t7.cap.c, .slice t7.num.ad t7.num.l.length t7.num.c, .slice t7.fin.ad t7.fin.l.length t7.fin.c, .slice t7.sw.ad t7.sw.l.length t7.sw.c] by rw [← hY1.out]; exact Blk.new y1 _ _)
     have HYY := hide (show Below y1.heap.size y1 Y1 by rw [← hY1.out]; exact below_alloc y1 _)
     have HZ1 := hide (HY1.out.trans (HYY.out.mono HY1.out.size))
     have HX7b := hide ((HX7.out.below HYY.out).more HYY.out.size)
     have hcr : Y1.cell? ⟨g, i, none⟩ = some (.slice B m c) := by rw [((HBK.out.below HB1.out HBK.out.lt).below HYY.out (by have h1 := HBK.out.lt; have h2 := HB1.out.size; omega)).cell]; exact HCL.out
     obtain ⟨g19, hg19⟩ : ∃ g19, g19 = y1.heap.size := ⟨_, rfl⟩
     rw [← hg19] at X1Q ⊢
     clear hY1 hcq hg19 HX7 C1
     go_upto_region 14 with (go_at_call 15; refine (unhide C2 Y1 HZ1.out).mono ?_; rintro e y2 ⟨v8, t8, rfl, htx8, h81, h82, hb⟩; have HX8 := hide htx8; have H81 := hide h81; have H82 := hide h82; have HY2 := hide (HZ1.out.trans (hb.mono HZ1.out.size)); have HB2 := hide hb; obtain ⟨Aq8, Bq8, cq8, dq8, rfl, _⟩ := htx8; clear hb h81 h82)
     refine name_world fun Y hY => ?_
     have HC8Q := hide (show Blk Y y2.heap.size 29 #[.slice Aq8 t8.r0.length cq8, .slice Bq8 t8.r1.length dq8, .slice t8.dig.ad t8.dig.l.length t8.dig.c, .slice t8.cap.ad t8.cap.l.length t8.cap.c, .slice t8.num.ad t8.num.l.length t8.num.c, .slice t8.fin.ad t8.fin.l.length t8.fin.c, .slice t8.sw.ad t8.sw.l.length t8.sw.c] by rw [← hY.out]; exact Blk.new y2 _ _)
     have HYZ := hide (show Below y2.heap.size y2 Y by rw [← hY.out]; exact below_alloc y2 _)
     have HZY := hide (HY2.out.trans (HYZ.out.mono HY2.out.size))
     have HX8b := hide ((HX8.out.below HYZ.out).more HYZ.out.size)
     have HX7c := hide ((((HX7b.out.below HB2.out).more HB2.out.size).below HYZ.out).more HYZ.out.size)
     have HC7Q := hide ((X1Q.out.below HB2.out X1Q.out.lt).below HYZ.out (by have h1 := X1Q.out.lt; have h2 := HB2.out.size; omega))
     obtain ⟨g22, hg22⟩ : ∃ g22, g22 = y2.heap.size := ⟨_, rfl⟩
     rw [← hg22] at HC8Q ⊢
     have HEQ := hide (HDS.out t7 t8 H71.out H72.out H81.out H82.out)
     have HL7 := hide (HDL.out t7 H71.out H72.out)
     have HL8 := hide (HDL.out t8 H81.out H82.out)
     clear hY hcr hg22 HX8 C2 X1Q HX7b HDS HDL
     obtain ⟨TX, hTX⟩ : ∃ TX : Value, TX = .agg #[.slice Aq7 t7.r0.length cq7, .slice Bq7 t7.r1.length dq7, .slice t7.dig.ad t7.dig.l.length t7.dig.c, .slice t7.cap.ad t7.cap.l.length t7.cap.c, .slice t7.num.ad t7.num.l.length t7.num.c, .slice t7.fin.ad t7.fin.l.length t7.fin.c, .slice t7.sw.ad t7.sw.l.length t7.sw.c] := ⟨_, rfl⟩
     have HTVX := hide hTX.symm
     obtain ⟨TY, hTY⟩ : ∃ TY : Value, TY = .agg #[.slice Aq8 t8.r0.length cq8, .slice Bq8 t8.r1.length dq8, .slice t8.dig.ad t8.dig.l.length t8.dig.c, .slice t8.cap.ad t8.cap.l.length t8.cap.c, .slice t8.num.ad t8.num.l.length t8.num.c, .slice t8.fin.ad t8.fin.l.length t8.fin.c, .slice t8.sw.ad t8.sw.l.length t8.sw.c] := ⟨_, rfl⟩
     have HTVY := hide hTY.symm
     rw [← hTX] at HX7c
     rw [← hTY] at HX8b
     obtain ⟨E7, hE7⟩ : ∃ E7, E7 = Wr.encT (taOf t7) := ⟨_, rfl⟩
     have CE7 := hide (fun (W : World) (hb : Below Y.heap.size Y W) => (show Calls Tryd.prog 8 #[TX] W fun e w' => ∃ v, e = .returned v ∧ gBs E7 w' v ∧ Below W.heap.size W w' from by
      refine (refEncode_any TX t7 W ((HX7c.out.below hb).more hb.size) (by have := HL7.out; omega)).mono ?_
      rintro e w' ⟨u, rfl, ho, hb2⟩
      rw [← hE7] at ho
      exact ⟨u, rfl, gBs_own ho, hb2⟩))
     have CE8 := hide (fun (W : World) (hb : Below Y.heap.size Y W) => (show Calls Tryd.prog 8 #[TY] W fun e w' => ∃ v, e = .returned v ∧ gBs E7 w' v ∧ Below W.heap.size W w' from by
      refine (refEncode_any TY t8 W ((HX8b.out.below hb).more hb.size) (by have := HL8.out; omega)).mono ?_
      rintro e w' ⟨u, rfl, ho, hb2⟩
      rw [← HEQ.out, ← hE7] at ho
      exact ⟨u, rfl, gBs_own ho, hb2⟩))
     have HE7 := hide (show E7.length ≤ 1099511627776 from by rw [hE7]; have := HL7.out; omega)
     have HYR := hide (Below.refl Y.heap.size Y)
     clear hTX hTY hE7
     generalize t7.r0.length = n7r0 at *
     generalize t7.r1.length = n7r1 at *
     generalize t7.dig.l.length = n7dig at *
     generalize t7.cap.l.length = n7cap at *
     generalize t7.num.l.length = n7num at *
     generalize t7.fin.l.length = n7fin at *
     generalize t7.sw.l.length = n7sw at *
     generalize t8.r0.length = n8r0 at *
     generalize t8.r1.length = n8r1 at *
     generalize t8.dig.l.length = n8dig at *
     generalize t8.cap.l.length = n8cap at *
     generalize t8.num.l.length = n8num at *
     generalize t8.fin.l.length = n8fin at *
     generalize t8.sw.l.length = n8sw at *
     have HC7 := hide (fun (W : World) (hb : Below Y.heap.size Y W) => (show W.cell? ⟨g19, 0, none⟩ = some (.slice Aq7 n7r0 cq7) ∧ W.cell? ⟨g19, 1, none⟩ = some (.slice Bq7 n7r1 dq7) ∧ W.cell? ⟨g19, 2, none⟩ = some (.slice t7.dig.ad n7dig t7.dig.c) ∧ W.cell? ⟨g19, 3, none⟩ = some (.slice t7.cap.ad n7cap t7.cap.c) ∧ W.cell? ⟨g19, 4, none⟩ = some (.slice t7.num.ad n7num t7.num.c) ∧ W.cell? ⟨g19, 5, none⟩ = some (.slice t7.fin.ad n7fin t7.fin.c) ∧ W.cell? ⟨g19, 6, none⟩ = some (.slice t7.sw.ad n7sw t7.sw.c) from by
      have Q := HC7Q.out.below hb HC7Q.out.lt
      exact ⟨Q.cell 0, Q.cell 1, Q.cell 2, Q.cell 3, Q.cell 4, Q.cell 5, Q.cell 6⟩))
     have HC8 := hide (fun (W : World) (hb : Below Y.heap.size Y W) => (show W.cell? ⟨g22, 0, none⟩ = some (.slice Aq8 n8r0 cq8) ∧ W.cell? ⟨g22, 1, none⟩ = some (.slice Bq8 n8r1 dq8) ∧ W.cell? ⟨g22, 2, none⟩ = some (.slice t8.dig.ad n8dig t8.dig.c) ∧ W.cell? ⟨g22, 3, none⟩ = some (.slice t8.cap.ad n8cap t8.cap.c) ∧ W.cell? ⟨g22, 4, none⟩ = some (.slice t8.num.ad n8num t8.num.c) ∧ W.cell? ⟨g22, 5, none⟩ = some (.slice t8.fin.ad n8fin t8.fin.c) ∧ W.cell? ⟨g22, 6, none⟩ = some (.slice t8.sw.ad n8sw t8.sw.c) from by
      have Q := HC8Q.out.below hb HC8Q.out.lt
      exact ⟨Q.cell 0, Q.cell 1, Q.cell 2, Q.cell 3, Q.cell 4, Q.cell 5, Q.cell 6⟩))
     clear HC7Q HC8Q
     have hee : (er != er) = false := by simp
     have huu : ((us : Int) != (us : Int)) = false := by simp
     have hnn : ((nb : Int) != (nb : Int)) = false := by simp
     by_cases hq0 : i = 0
     ·obtain ⟨he0, hu0⟩ := HD0.out hq0
      have hu1 := hu0.symm
      subst hq0 he0 hu1
      rw [show ((0 : Nat) : Int) = 0 from rfl] at *
      have hee2 : ((0 : Int) != 0) = false := by decide
      refine wp_region_all [some 110, some 111, some 112, some 113, some 114, some 115, some 116, some 117, some 118, some 119, some 120, some 121, some 122, some 123, some 124, some 125, some 126, some 127, some 128, some 129, some 130, some 131, some 132, some 133, some 134, some 135, some 136, some 137, some 138, some 139, some 140, some 141, some 142, some 143, some 144, some 145, some 146, some 147] (gAll (ksB14a TX TY E7 nb nb gb nbc 0 0)) (fun W => Below Y.heap.size Y W)
       (by kernel_rfl) (by kernel_rfl) (by rfl) (by decide) (by rfl) HYR.out.drew ?_ ?_
      ·intro j hj A x W hC hd hr
       have stay : ∀ W', Below W.heap.size W W' → Below Y.heap.size Y W' := fun W' hb => hC.trans (hb.mono hC.size)
       have KSS := ksB14a_stab TX TY E7 nb nb gb nbc 0 0
       have hj' : j = 0 ∨ j = 1 ∨ j = 2 ∨ j = 3 ∨ j = 4 ∨ j = 5 ∨ j = 6 ∨ j = 7 ∨ j = 8 ∨ j = 9 ∨ j = 10 ∨ j = 11 ∨ j = 12 ∨ j = 13 ∨ j = 14 ∨ j = 15 ∨ j = 16 ∨ j = 17 ∨ j = 18 ∨ j = 19 ∨ j = 20 ∨ j = 21 ∨ j = 22 ∨ j = 23 ∨ j = 24 ∨ j = 25 ∨ j = 26 ∨ j = 27 ∨ j = 28 ∨ j = 29 ∨ j = 30 ∨ j = 31 ∨ j = 32 ∨ j = 33 ∨ j = 34 ∨ j = 35 ∨ j = 36 ∨ j = 37 := by
        have hn : j < 38 := hj
        omega
       rcases hj' with rfl | rfl | rfl | rfl | rfl | rfl | rfl | rfl | rfl | rfl | rfl | rfl | rfl | rfl | rfl | rfl | rfl | rfl | rfl | rfl | rfl | rfl | rfl | rfl | rfl | rfl | rfl | rfl | rfl | rfl | rfl | rfl | rfl | rfl | rfl | rfl | rfl | rfl
       ·have e21 : A.tmps[21]?.getD undef = .int .i64 0 := hr 21 (by decide)
        refine wpOp_step rfl (fun K' hK => ?_)
        go_simp
        exact hK _ _ ⟨_, rfl, rfl, fun _ _ _ h => h, hC⟩
       ·have e24 : A.tmps[24]?.getD undef = .int .i64 0 := hr 24 (by decide)
        refine wpOp_step rfl (fun K' hK => ?_)
        go_simp
        exact hK _ _ ⟨_, rfl, rfl, fun _ _ _ h => h, hC⟩
       ·have d0 : A.tmps[110]?.getD undef = .int .i64 0 := fI hd 0 110
        have d1 : A.tmps[111]?.getD undef = .int .i64 0 := fI hd 1 111
        refine wpOp_step rfl (fun K' hK => ?_)
        go_simp
        exact hK _ _ ⟨_, rfl, rfl, fun _ _ _ h => h, hC⟩
       ·have d2 : A.tmps[112]?.getD undef = .bool false := fI hd 2 112
        refine wpOp_step rfl (fun K' hK => ?_)
        go_simp
        exact hK _ _ ⟨_, rfl, rfl, fun _ _ _ h => h, hC⟩
       ·have e20 : A.tmps[20]?.getD undef = .int .i64 (nb : Int) := hr 20 (by decide)
        have d3 : A.tmps[113]?.getD undef = .bool false := fI hd 3 113
        refine wpOp_step rfl (fun K' hK => ?_)
        rw [if_pos (wanted_of 3 113 false rfl rfl d3)]
        go_simp
        exact hK _ _ ⟨_, rfl, rfl, fun _ _ _ h => h, hC⟩
       ·have e23 : A.tmps[23]?.getD undef = .int .i64 (nb : Int) := hr 23 (by decide)
        have d3 : A.tmps[113]?.getD undef = .bool false := fI hd 3 113
        refine wpOp_step rfl (fun K' hK => ?_)
        rw [if_pos (wanted_of 3 113 false rfl rfl d3)]
        go_simp
        exact hK _ _ ⟨_, rfl, rfl, fun _ _ _ h => h, hC⟩
       ·have d4 : A.tmps[114]?.getD undef = .int .i64 (nb : Int) := fI hd 4 114
        have d5 : A.tmps[115]?.getD undef = .int .i64 (nb : Int) := fI hd 5 115
        have d3 : A.tmps[113]?.getD undef = .bool false := fI hd 3 113
        refine wpOp_step rfl (fun K' hK => ?_)
        rw [if_pos (wanted_of 3 113 false rfl rfl d3)]
        go_simp
        exact hK _ _ ⟨_, rfl, rfl, fun _ _ _ h => h, hC⟩
       ·have d3 : A.tmps[113]?.getD undef = .bool false := fI hd 3 113
        have d6 : A.tmps[116]?.getD undef = .bool false := fI hd 6 116
        refine wpOp_step rfl (fun K' hK => ?_)
        go_simp
        exact hK _ _ ⟨_, rfl, rfl, fun _ _ _ h => h, hC⟩
       ·have d7 : A.tmps[117]?.getD undef = .bool false := fI hd 7 117
        refine wpOp_step rfl (fun K' hK => ?_)
        go_simp
        exact hK _ _ ⟨_, rfl, rfl, fun _ _ _ h => h, hC⟩
       ·have e19 : A.tmps[19]?.getD undef = .pointer (some ⟨g19, 0, none⟩) := hr 19 (by decide)
        have d8 : A.tmps[118]?.getD undef = .bool false := fI hd 8 118
        refine wpOp_step rfl (fun K' hK => ?_)
        rw [if_pos (wanted_of 8 118 false rfl rfl d8)]
        obtain ⟨t0, t1, t2, t3, t4, t5, t6⟩ := HC7.out W hC
        go_simp
        exact hK _ _ ⟨_, rfl, HTVX.out, fun _ _ _ h => h, hC⟩
       ·have d9 : A.tmps[119]?.getD undef = TX := fI hd 9 119
        have d8 : A.tmps[118]?.getD undef = .bool false := fI hd 8 118
        refine wpOp_step rfl (fun K' hK => ?_)
        rw [if_pos (wanted_of 8 118 false rfl rfl d8)]
        go_simp
        go_at_call 8
        refine (CE7.out W hC).mono ?_
        rintro e W' ⟨v, rfl, hv, hb⟩
        exact hK _ _ ⟨_, rfl, hv, fun k' _ u h => gAll_below KSS hb k' u h, stay _ hb⟩
       ·have e22 : A.tmps[22]?.getD undef = .pointer (some ⟨g22, 0, none⟩) := hr 22 (by decide)
        have d8 : A.tmps[118]?.getD undef = .bool false := fI hd 8 118
        refine wpOp_step rfl (fun K' hK => ?_)
        rw [if_pos (wanted_of 8 118 false rfl rfl d8)]
        obtain ⟨t0, t1, t2, t3, t4, t5, t6⟩ := HC8.out W hC
        go_simp
        exact hK _ _ ⟨_, rfl, HTVY.out, fun _ _ _ h => h, hC⟩
       ·have d11 : A.tmps[121]?.getD undef = TY := fI hd 11 121
        have d8 : A.tmps[118]?.getD undef = .bool false := fI hd 8 118
        refine wpOp_step rfl (fun K' hK => ?_)
        rw [if_pos (wanted_of 8 118 false rfl rfl d8)]
        go_simp
        go_at_call 8
        refine (CE8.out W hC).mono ?_
        rintro e W' ⟨v, rfl, hv, hb⟩
        exact hK _ _ ⟨_, rfl, hv, fun k' _ u h => gAll_below KSS hb k' u h, stay _ hb⟩
       ·have d10 : A.tmps[120]?.getD undef = x 10 := (hd 10 (by decide)).1 120 rfl
        have r10 : gBs E7 W (x 10) := (hd 10 (by decide)).2
        have d12 : A.tmps[122]?.getD undef = x 12 := (hd 12 (by decide)).1 122 rfl
        have r12 : gBs E7 W (x 12) := (hd 12 (by decide)).2
        have d8 : A.tmps[118]?.getD undef = .bool false := fI hd 8 118
        refine wpOp_step rfl (fun K' hK => ?_)
        rw [if_pos (wanted_of 8 118 false rfl rfl d8)]
        go_simp
        go_at_call 7
        refine (sameBs_call E7 _ _ W r10 r12 HE7.out).mono ?_
        rintro e W' ⟨rfl, hb⟩
        exact hK _ _ ⟨_, rfl, rfl, fun k' _ u h => gAll_below KSS hb k' u h, stay _ hb⟩
       ·have d13 : A.tmps[123]?.getD undef = .bool true := fI hd 13 123
        have d8 : A.tmps[118]?.getD undef = .bool false := fI hd 8 118
        refine wpOp_step rfl (fun K' hK => ?_)
        rw [if_pos (wanted_of 8 118 false rfl rfl d8)]
        go_simp
        exact hK _ _ ⟨_, rfl, rfl, fun _ _ _ h => h, hC⟩
       ·have d8 : A.tmps[118]?.getD undef = .bool false := fI hd 8 118
        have d14 : A.tmps[124]?.getD undef = .bool false := fI hd 14 124
        refine wpOp_step rfl (fun K' hK => ?_)
        go_simp
        exact hK _ _ ⟨_, rfl, rfl, fun _ _ _ h => h, hC⟩
       ·have d15 : A.tmps[125]?.getD undef = .bool false := fI hd 15 125
        refine wpOp_step rfl (fun K' hK => ?_)
        go_simp
        exact hK _ _ ⟨_, rfl, rfl, fun _ _ _ h => h, hC⟩
       ·have e18 : A.tmps[18]?.getD undef = .int .i64 0 := hr 18 (by decide)
        have d16 : A.tmps[126]?.getD undef = .bool false := fI hd 16 126
        refine wpOp_step rfl (fun K' hK => ?_)
        rw [if_pos (wanted_of 16 126 false rfl rfl d16)]
        go_simp
        exact hK _ _ ⟨_, rfl, rfl, fun _ _ _ h => h, hC⟩
       ·have d17 : A.tmps[127]?.getD undef = .int .i64 0 := fI hd 17 127
        have d16 : A.tmps[126]?.getD undef = .bool false := fI hd 16 126
        refine wpOp_step rfl (fun K' hK => ?_)
        rw [if_pos (wanted_of 16 126 false rfl rfl d16)]
        go_simp
        exact hK _ _ ⟨_, rfl, rfl, fun _ _ _ h => h, hC⟩
       ·have d18 : A.tmps[128]?.getD undef = .bool true := fI hd 18 128
        have d16 : A.tmps[126]?.getD undef = .bool false := fI hd 16 126
        refine wpOp_step rfl (fun K' hK => ?_)
        rw [if_pos (wanted_of 16 126 false rfl rfl d16)]
        go_simp
        exact hK _ _ ⟨_, rfl, rfl, fun _ _ _ h => h, hC⟩
       ·have e21 : A.tmps[21]?.getD undef = .int .i64 0 := hr 21 (by decide)
        have d19 : A.tmps[129]?.getD undef = .bool true := fI hd 19 129
        refine wpOp_step rfl (fun K' hK => ?_)
        rw [if_pos (wanted_of 19 129 true rfl rfl d19)]
        go_simp
        exact hK _ _ ⟨_, rfl, rfl, fun _ _ _ h => h, hC⟩
       ·have d20 : A.tmps[130]?.getD undef = .int .i64 0 := fI hd 20 130
        have d19 : A.tmps[129]?.getD undef = .bool true := fI hd 19 129
        refine wpOp_step rfl (fun K' hK => ?_)
        rw [if_pos (wanted_of 19 129 true rfl rfl d19)]
        go_simp
        exact hK _ _ ⟨_, rfl, rfl, fun _ _ _ h => h, hC⟩
       ·have d21 : A.tmps[131]?.getD undef = .bool false := fI hd 21 131
        have d19 : A.tmps[129]?.getD undef = .bool true := fI hd 19 129
        refine wpOp_step rfl (fun K' hK => ?_)
        rw [if_pos (wanted_of 19 129 true rfl rfl d19)]
        go_simp
        exact hK _ _ ⟨_, rfl, rfl, fun _ _ _ h => h, hC⟩
       ·have e20 : A.tmps[20]?.getD undef = .int .i64 (nb : Int) := hr 20 (by decide)
        have d22 : A.tmps[132]?.getD undef = .bool false := fI hd 22 132
        refine wpOp_step rfl (fun K' hK => ?_)
        rw [if_pos (wanted_of 22 132 false rfl rfl d22)]
        go_simp
        exact hK _ _ ⟨_, rfl, rfl, fun _ _ _ h => h, hC⟩
       ·have e14 : A.tmps[14]?.getD undef = .slice (some ⟨gb, 0, none⟩) nb nbc := hr 14 (by decide)
        have d22 : A.tmps[132]?.getD undef = .bool false := fI hd 22 132
        refine wpOp_step rfl (fun K' hK => ?_)
        rw [if_pos (wanted_of 22 132 false rfl rfl d22)]
        go_simp
        exact hK _ _ ⟨_, rfl, rfl, fun _ _ _ h => h, hC⟩
       ·have d24 : A.tmps[134]?.getD undef = .slice (some ⟨gb, 0, none⟩) nb nbc := fI hd 24 134
        have d22 : A.tmps[132]?.getD undef = .bool false := fI hd 22 132
        refine wpOp_step rfl (fun K' hK => ?_)
        rw [if_pos (wanted_of 22 132 false rfl rfl d22)]
        go_simp
        exact hK _ _ ⟨_, rfl, rfl, fun _ _ _ h => h, hC⟩
       ·have d23 : A.tmps[133]?.getD undef = .int .i64 (nb : Int) := fI hd 23 133
        have d25 : A.tmps[135]?.getD undef = .int .i64 (nb : Int) := fI hd 25 135
        have d22 : A.tmps[132]?.getD undef = .bool false := fI hd 22 132
        refine wpOp_step rfl (fun K' hK => ?_)
        rw [if_pos (wanted_of 22 132 false rfl rfl d22)]
        go_simp
        exact hK _ _ ⟨_, rfl, rfl, fun _ _ _ h => h, hC⟩
       ·have d22 : A.tmps[132]?.getD undef = .bool false := fI hd 22 132
        have d26 : A.tmps[136]?.getD undef = .bool false := fI hd 26 136
        have d19 : A.tmps[129]?.getD undef = .bool true := fI hd 19 129
        refine wpOp_step rfl (fun K' hK => ?_)
        rw [if_pos (wanted_of 19 129 true rfl rfl d19)]
        go_simp
        exact hK _ _ ⟨_, rfl, rfl, fun _ _ _ h => h, hC⟩
       ·have d19 : A.tmps[129]?.getD undef = .bool true := fI hd 19 129
        have d27 : A.tmps[137]?.getD undef = .bool false := fI hd 27 137
        have d16 : A.tmps[126]?.getD undef = .bool false := fI hd 16 126
        refine wpOp_step rfl (fun K' hK => ?_)
        rw [if_pos (wanted_of 16 126 false rfl rfl d16)]
        go_simp
        exact hK _ _ ⟨_, rfl, rfl, fun _ _ _ h => h, hC⟩
       ·have d16 : A.tmps[126]?.getD undef = .bool false := fI hd 16 126
        have d28 : A.tmps[138]?.getD undef = .bool false := fI hd 28 138
        refine wpOp_step rfl (fun K' hK => ?_)
        go_simp
        exact hK _ _ ⟨_, rfl, rfl, fun _ _ _ h => h, hC⟩
       ·have d29 : A.tmps[139]?.getD undef = .bool false := fI hd 29 139
        refine wpOp_step rfl (fun K' hK => ?_)
        go_simp
        exact hK _ _ ⟨_, rfl, rfl, fun _ _ _ h => h, hC⟩
       ·have e18 : A.tmps[18]?.getD undef = .int .i64 0 := hr 18 (by decide)
        have d30 : A.tmps[140]?.getD undef = .bool false := fI hd 30 140
        refine wpOp_step rfl (fun K' hK => ?_)
        rw [if_pos (wanted_of 30 140 false rfl rfl d30)]
        go_simp
        exact hK _ _ ⟨_, rfl, rfl, fun _ _ _ h => h, hC⟩
       ·have d31 : A.tmps[141]?.getD undef = .int .i64 0 := fI hd 31 141
        have d30 : A.tmps[140]?.getD undef = .bool false := fI hd 30 140
        refine wpOp_step rfl (fun K' hK => ?_)
        rw [if_pos (wanted_of 30 140 false rfl rfl d30)]
        go_simp
        exact hK _ _ ⟨_, rfl, rfl, fun _ _ _ h => h, hC⟩
       ·have d32 : A.tmps[142]?.getD undef = .bool false := fI hd 32 142
        have d30 : A.tmps[140]?.getD undef = .bool false := fI hd 30 140
        refine wpOp_step rfl (fun K' hK => ?_)
        rw [if_pos (wanted_of 30 140 false rfl rfl d30)]
        go_simp
        exact hK _ _ ⟨_, rfl, rfl, fun _ _ _ h => h, hC⟩
       ·have d33 : A.tmps[143]?.getD undef = .bool false := fI hd 33 143
        refine wpOp_step rfl (fun K' hK => ?_)
        rw [if_neg (unwanted_of 33 143 true _ rfl rfl d33 (by rfl))]
        exact hK _ _ ⟨undef, rfl, rfl, fun _ _ _ h => h, hC⟩
       ·have d33 : A.tmps[143]?.getD undef = .bool false := fI hd 33 143
        refine wpOp_step rfl (fun K' hK => ?_)
        rw [if_neg (unwanted_of 33 143 true _ rfl rfl d33 (by rfl))]
        exact hK _ _ ⟨undef, rfl, rfl, fun _ _ _ h => h, hC⟩
       ·have d33 : A.tmps[143]?.getD undef = .bool false := fI hd 33 143
        have d35 : A.tmps[145]?.getD undef = undef := fI hd 35 145
        have d30 : A.tmps[140]?.getD undef = .bool false := fI hd 30 140
        refine wpOp_step rfl (fun K' hK => ?_)
        rw [if_pos (wanted_of 30 140 false rfl rfl d30)]
        go_simp
        exact hK _ _ ⟨_, rfl, rfl, fun _ _ _ h => h, hC⟩
       ·have d30 : A.tmps[140]?.getD undef = .bool false := fI hd 30 140
        have d36 : A.tmps[146]?.getD undef = .bool false := fI hd 36 146
        refine wpOp_step rfl (fun K' hK => ?_)
        go_simp
        exact hK _ _ ⟨_, rfl, rfl, fun _ _ _ h => h, hC⟩
      ·intro x W hC hR
       have h37 : x 37 = .bool false := hR 37 (by decide)
       simp only [putL, Act.put, Nat.zero_add, Nat.reduceAdd, List.setIfInBounds_toArray, List.set_cons_succ, List.set_cons_zero]
       generalize x 0 = xx0
       generalize x 1 = xx1
       generalize x 2 = xx2
       generalize x 3 = xx3
       generalize x 4 = xx4
       generalize x 5 = xx5
       generalize x 6 = xx6
       generalize x 7 = xx7
       generalize x 8 = xx8
       generalize x 9 = xx9
       generalize x 10 = xx10
       generalize x 11 = xx11
       generalize x 12 = xx12
       generalize x 13 = xx13
       generalize x 14 = xx14
       generalize x 15 = xx15
       generalize x 16 = xx16
       generalize x 17 = xx17
       generalize x 18 = xx18
       generalize x 19 = xx19
       generalize x 20 = xx20
       generalize x 21 = xx21
       generalize x 22 = xx22
       generalize x 23 = xx23
       generalize x 24 = xx24
       generalize x 25 = xx25
       generalize x 26 = xx26
       generalize x 27 = xx27
       generalize x 28 = xx28
       generalize x 29 = xx29
       generalize x 30 = xx30
       generalize x 31 = xx31
       generalize x 32 = xx32
       generalize x 33 = xx33
       generalize x 34 = xx34
       generalize x 35 = xx35
       generalize x 36 = xx36
       rw [h37]
       clear hR h37
       have HBF := hide (HZY.out.trans (hC.mono HZY.out.size))
       clear hC
       go_wp2
       exact ⟨⟨1, by have := HLT.out; omega, by go_num, HBF.out⟩, by have := HLT.out; simp [intOf]; try omega⟩
     ·by_cases hq1 : i = 1
      ·have he1 : (er == 0) = false := beq_eq_false_iff_ne.2 (HD1.out hq1)
       subst hq1
       rw [show ((1 : Nat) : Int) = 1 from rfl] at *
       refine wp_region_all [some 110, some 111, some 112, some 113, some 114, some 115, some 116, some 117, some 118, some 119, some 120, some 121, some 122, some 123, some 124, some 125, some 126, some 127, some 128, some 129, some 130, some 131, some 132, some 133, some 134, some 135, some 136, some 137, some 138, some 139, some 140, some 141, some 142, some 143, some 144, some 145, some 146, some 147] (gAll (ksB14b TX TY E7 nb us gb nbc er 1)) (fun W => Below Y.heap.size Y W)
        (by kernel_rfl) (by kernel_rfl) (by rfl) (by decide) (by rfl) HYR.out.drew ?_ ?_
       ·intro j hj A x W hC hd hr
        have stay : ∀ W', Below W.heap.size W W' → Below Y.heap.size Y W' := fun W' hb => hC.trans (hb.mono hC.size)
        have KSS := ksB14b_stab TX TY E7 nb us gb nbc er 1
        have hj' : j = 0 ∨ j = 1 ∨ j = 2 ∨ j = 3 ∨ j = 4 ∨ j = 5 ∨ j = 6 ∨ j = 7 ∨ j = 8 ∨ j = 9 ∨ j = 10 ∨ j = 11 ∨ j = 12 ∨ j = 13 ∨ j = 14 ∨ j = 15 ∨ j = 16 ∨ j = 17 ∨ j = 18 ∨ j = 19 ∨ j = 20 ∨ j = 21 ∨ j = 22 ∨ j = 23 ∨ j = 24 ∨ j = 25 ∨ j = 26 ∨ j = 27 ∨ j = 28 ∨ j = 29 ∨ j = 30 ∨ j = 31 ∨ j = 32 ∨ j = 33 ∨ j = 34 ∨ j = 35 ∨ j = 36 ∨ j = 37 := by
         have hn : j < 38 := hj
         omega
        rcases hj' with rfl | rfl | rfl | rfl | rfl | rfl | rfl | rfl | rfl | rfl | rfl | rfl | rfl | rfl | rfl | rfl | rfl | rfl | rfl | rfl | rfl | rfl | rfl | rfl | rfl | rfl | rfl | rfl | rfl | rfl | rfl | rfl | rfl | rfl | rfl | rfl | rfl | rfl
        ·have e21 : A.tmps[21]?.getD undef = .int .i64 er := hr 21 (by decide)
         refine wpOp_step rfl (fun K' hK => ?_)
         go_simp
         exact hK _ _ ⟨_, rfl, rfl, fun _ _ _ h => h, hC⟩
        ·have e24 : A.tmps[24]?.getD undef = .int .i64 er := hr 24 (by decide)
         refine wpOp_step rfl (fun K' hK => ?_)
         go_simp
         exact hK _ _ ⟨_, rfl, rfl, fun _ _ _ h => h, hC⟩
        ·have d0 : A.tmps[110]?.getD undef = .int .i64 er := fI hd 0 110
         have d1 : A.tmps[111]?.getD undef = .int .i64 er := fI hd 1 111
         refine wpOp_step rfl (fun K' hK => ?_)
         go_simp
         exact hK _ _ ⟨_, rfl, rfl, fun _ _ _ h => h, hC⟩
        ·have d2 : A.tmps[112]?.getD undef = .bool false := fI hd 2 112
         refine wpOp_step rfl (fun K' hK => ?_)
         go_simp
         exact hK _ _ ⟨_, rfl, rfl, fun _ _ _ h => h, hC⟩
        ·have e20 : A.tmps[20]?.getD undef = .int .i64 (us : Int) := hr 20 (by decide)
         have d3 : A.tmps[113]?.getD undef = .bool false := fI hd 3 113
         refine wpOp_step rfl (fun K' hK => ?_)
         rw [if_pos (wanted_of 3 113 false rfl rfl d3)]
         go_simp
         exact hK _ _ ⟨_, rfl, rfl, fun _ _ _ h => h, hC⟩
        ·have e23 : A.tmps[23]?.getD undef = .int .i64 (us : Int) := hr 23 (by decide)
         have d3 : A.tmps[113]?.getD undef = .bool false := fI hd 3 113
         refine wpOp_step rfl (fun K' hK => ?_)
         rw [if_pos (wanted_of 3 113 false rfl rfl d3)]
         go_simp
         exact hK _ _ ⟨_, rfl, rfl, fun _ _ _ h => h, hC⟩
        ·have d4 : A.tmps[114]?.getD undef = .int .i64 (us : Int) := fI hd 4 114
         have d5 : A.tmps[115]?.getD undef = .int .i64 (us : Int) := fI hd 5 115
         have d3 : A.tmps[113]?.getD undef = .bool false := fI hd 3 113
         refine wpOp_step rfl (fun K' hK => ?_)
         rw [if_pos (wanted_of 3 113 false rfl rfl d3)]
         go_simp
         exact hK _ _ ⟨_, rfl, rfl, fun _ _ _ h => h, hC⟩
        ·have d3 : A.tmps[113]?.getD undef = .bool false := fI hd 3 113
         have d6 : A.tmps[116]?.getD undef = .bool false := fI hd 6 116
         refine wpOp_step rfl (fun K' hK => ?_)
         go_simp
         exact hK _ _ ⟨_, rfl, rfl, fun _ _ _ h => h, hC⟩
        ·have d7 : A.tmps[117]?.getD undef = .bool false := fI hd 7 117
         refine wpOp_step rfl (fun K' hK => ?_)
         go_simp
         exact hK _ _ ⟨_, rfl, rfl, fun _ _ _ h => h, hC⟩
        ·have e19 : A.tmps[19]?.getD undef = .pointer (some ⟨g19, 0, none⟩) := hr 19 (by decide)
         have d8 : A.tmps[118]?.getD undef = .bool false := fI hd 8 118
         refine wpOp_step rfl (fun K' hK => ?_)
         rw [if_pos (wanted_of 8 118 false rfl rfl d8)]
         obtain ⟨t0, t1, t2, t3, t4, t5, t6⟩ := HC7.out W hC
         go_simp
         exact hK _ _ ⟨_, rfl, HTVX.out, fun _ _ _ h => h, hC⟩
        ·have d9 : A.tmps[119]?.getD undef = TX := fI hd 9 119
         have d8 : A.tmps[118]?.getD undef = .bool false := fI hd 8 118
         refine wpOp_step rfl (fun K' hK => ?_)
         rw [if_pos (wanted_of 8 118 false rfl rfl d8)]
         go_simp
         go_at_call 8
         refine (CE7.out W hC).mono ?_
         rintro e W' ⟨v, rfl, hv, hb⟩
         exact hK _ _ ⟨_, rfl, hv, fun k' _ u h => gAll_below KSS hb k' u h, stay _ hb⟩
        ·have e22 : A.tmps[22]?.getD undef = .pointer (some ⟨g22, 0, none⟩) := hr 22 (by decide)
         have d8 : A.tmps[118]?.getD undef = .bool false := fI hd 8 118
         refine wpOp_step rfl (fun K' hK => ?_)
         rw [if_pos (wanted_of 8 118 false rfl rfl d8)]
         obtain ⟨t0, t1, t2, t3, t4, t5, t6⟩ := HC8.out W hC
         go_simp
         exact hK _ _ ⟨_, rfl, HTVY.out, fun _ _ _ h => h, hC⟩
        ·have d11 : A.tmps[121]?.getD undef = TY := fI hd 11 121
         have d8 : A.tmps[118]?.getD undef = .bool false := fI hd 8 118
         refine wpOp_step rfl (fun K' hK => ?_)
         rw [if_pos (wanted_of 8 118 false rfl rfl d8)]
         go_simp
         go_at_call 8
         refine (CE8.out W hC).mono ?_
         rintro e W' ⟨v, rfl, hv, hb⟩
         exact hK _ _ ⟨_, rfl, hv, fun k' _ u h => gAll_below KSS hb k' u h, stay _ hb⟩
        ·have d10 : A.tmps[120]?.getD undef = x 10 := (hd 10 (by decide)).1 120 rfl
         have r10 : gBs E7 W (x 10) := (hd 10 (by decide)).2
         have d12 : A.tmps[122]?.getD undef = x 12 := (hd 12 (by decide)).1 122 rfl
         have r12 : gBs E7 W (x 12) := (hd 12 (by decide)).2
         have d8 : A.tmps[118]?.getD undef = .bool false := fI hd 8 118
         refine wpOp_step rfl (fun K' hK => ?_)
         rw [if_pos (wanted_of 8 118 false rfl rfl d8)]
         go_simp
         go_at_call 7
         refine (sameBs_call E7 _ _ W r10 r12 HE7.out).mono ?_
         rintro e W' ⟨rfl, hb⟩
         exact hK _ _ ⟨_, rfl, rfl, fun k' _ u h => gAll_below KSS hb k' u h, stay _ hb⟩
        ·have d13 : A.tmps[123]?.getD undef = .bool true := fI hd 13 123
         have d8 : A.tmps[118]?.getD undef = .bool false := fI hd 8 118
         refine wpOp_step rfl (fun K' hK => ?_)
         rw [if_pos (wanted_of 8 118 false rfl rfl d8)]
         go_simp
         exact hK _ _ ⟨_, rfl, rfl, fun _ _ _ h => h, hC⟩
        ·have d8 : A.tmps[118]?.getD undef = .bool false := fI hd 8 118
         have d14 : A.tmps[124]?.getD undef = .bool false := fI hd 14 124
         refine wpOp_step rfl (fun K' hK => ?_)
         go_simp
         exact hK _ _ ⟨_, rfl, rfl, fun _ _ _ h => h, hC⟩
        ·have d15 : A.tmps[125]?.getD undef = .bool false := fI hd 15 125
         refine wpOp_step rfl (fun K' hK => ?_)
         go_simp
         exact hK _ _ ⟨_, rfl, rfl, fun _ _ _ h => h, hC⟩
        ·have e18 : A.tmps[18]?.getD undef = .int .i64 1 := hr 18 (by decide)
         have d16 : A.tmps[126]?.getD undef = .bool false := fI hd 16 126
         refine wpOp_step rfl (fun K' hK => ?_)
         rw [if_pos (wanted_of 16 126 false rfl rfl d16)]
         go_simp
         exact hK _ _ ⟨_, rfl, rfl, fun _ _ _ h => h, hC⟩
        ·have d17 : A.tmps[127]?.getD undef = .int .i64 1 := fI hd 17 127
         have d16 : A.tmps[126]?.getD undef = .bool false := fI hd 16 126
         refine wpOp_step rfl (fun K' hK => ?_)
         rw [if_pos (wanted_of 16 126 false rfl rfl d16)]
         go_simp
         exact hK _ _ ⟨_, rfl, rfl, fun _ _ _ h => h, hC⟩
        ·have d18 : A.tmps[128]?.getD undef = .bool false := fI hd 18 128
         have d16 : A.tmps[126]?.getD undef = .bool false := fI hd 16 126
         refine wpOp_step rfl (fun K' hK => ?_)
         rw [if_pos (wanted_of 16 126 false rfl rfl d16)]
         go_simp
         exact hK _ _ ⟨_, rfl, rfl, fun _ _ _ h => h, hC⟩
        ·have d19 : A.tmps[129]?.getD undef = .bool false := fI hd 19 129
         refine wpOp_step rfl (fun K' hK => ?_)
         rw [if_neg (unwanted_of 19 129 true _ rfl rfl d19 (by rfl))]
         exact hK _ _ ⟨undef, rfl, rfl, fun _ _ _ h => h, hC⟩
        ·have d19 : A.tmps[129]?.getD undef = .bool false := fI hd 19 129
         refine wpOp_step rfl (fun K' hK => ?_)
         rw [if_neg (unwanted_of 19 129 true _ rfl rfl d19 (by rfl))]
         exact hK _ _ ⟨undef, rfl, rfl, fun _ _ _ h => h, hC⟩
        ·have d19 : A.tmps[129]?.getD undef = .bool false := fI hd 19 129
         refine wpOp_step rfl (fun K' hK => ?_)
         rw [if_neg (unwanted_of 19 129 true _ rfl rfl d19 (by rfl))]
         exact hK _ _ ⟨undef, rfl, rfl, fun _ _ _ h => h, hC⟩
        ·have d22 : A.tmps[132]?.getD undef = undef := fI hd 22 132
         refine wpOp_step rfl (fun K' hK => ?_)
         rw [if_neg (unwanted_of 22 132 false _ rfl rfl d22 (by rfl))]
         exact hK _ _ ⟨undef, rfl, rfl, fun _ _ _ h => h, hC⟩
        ·have d22 : A.tmps[132]?.getD undef = undef := fI hd 22 132
         refine wpOp_step rfl (fun K' hK => ?_)
         rw [if_neg (unwanted_of 22 132 false _ rfl rfl d22 (by rfl))]
         exact hK _ _ ⟨undef, rfl, rfl, fun _ _ _ h => h, hC⟩
        ·have d22 : A.tmps[132]?.getD undef = undef := fI hd 22 132
         refine wpOp_step rfl (fun K' hK => ?_)
         rw [if_neg (unwanted_of 22 132 false _ rfl rfl d22 (by rfl))]
         exact hK _ _ ⟨undef, rfl, rfl, fun _ _ _ h => h, hC⟩
        ·have d22 : A.tmps[132]?.getD undef = undef := fI hd 22 132
         refine wpOp_step rfl (fun K' hK => ?_)
         rw [if_neg (unwanted_of 22 132 false _ rfl rfl d22 (by rfl))]
         exact hK _ _ ⟨undef, rfl, rfl, fun _ _ _ h => h, hC⟩
        ·have d19 : A.tmps[129]?.getD undef = .bool false := fI hd 19 129
         refine wpOp_step rfl (fun K' hK => ?_)
         rw [if_neg (unwanted_of 19 129 true _ rfl rfl d19 (by rfl))]
         exact hK _ _ ⟨undef, rfl, rfl, fun _ _ _ h => h, hC⟩
        ·have d19 : A.tmps[129]?.getD undef = .bool false := fI hd 19 129
         have d27 : A.tmps[137]?.getD undef = undef := fI hd 27 137
         have d16 : A.tmps[126]?.getD undef = .bool false := fI hd 16 126
         refine wpOp_step rfl (fun K' hK => ?_)
         rw [if_pos (wanted_of 16 126 false rfl rfl d16)]
         go_simp
         exact hK _ _ ⟨_, rfl, rfl, fun _ _ _ h => h, hC⟩
        ·have d16 : A.tmps[126]?.getD undef = .bool false := fI hd 16 126
         have d28 : A.tmps[138]?.getD undef = .bool false := fI hd 28 138
         refine wpOp_step rfl (fun K' hK => ?_)
         go_simp
         exact hK _ _ ⟨_, rfl, rfl, fun _ _ _ h => h, hC⟩
        ·have d29 : A.tmps[139]?.getD undef = .bool false := fI hd 29 139
         refine wpOp_step rfl (fun K' hK => ?_)
         go_simp
         exact hK _ _ ⟨_, rfl, rfl, fun _ _ _ h => h, hC⟩
        ·have e18 : A.tmps[18]?.getD undef = .int .i64 1 := hr 18 (by decide)
         have d30 : A.tmps[140]?.getD undef = .bool false := fI hd 30 140
         refine wpOp_step rfl (fun K' hK => ?_)
         rw [if_pos (wanted_of 30 140 false rfl rfl d30)]
         go_simp
         exact hK _ _ ⟨_, rfl, rfl, fun _ _ _ h => h, hC⟩
        ·have d31 : A.tmps[141]?.getD undef = .int .i64 1 := fI hd 31 141
         have d30 : A.tmps[140]?.getD undef = .bool false := fI hd 30 140
         refine wpOp_step rfl (fun K' hK => ?_)
         rw [if_pos (wanted_of 30 140 false rfl rfl d30)]
         go_simp
         exact hK _ _ ⟨_, rfl, rfl, fun _ _ _ h => h, hC⟩
        ·have d32 : A.tmps[142]?.getD undef = .bool true := fI hd 32 142
         have d30 : A.tmps[140]?.getD undef = .bool false := fI hd 30 140
         refine wpOp_step rfl (fun K' hK => ?_)
         rw [if_pos (wanted_of 30 140 false rfl rfl d30)]
         go_simp
         exact hK _ _ ⟨_, rfl, rfl, fun _ _ _ h => h, hC⟩
        ·have e21 : A.tmps[21]?.getD undef = .int .i64 er := hr 21 (by decide)
         have d33 : A.tmps[143]?.getD undef = .bool true := fI hd 33 143
         refine wpOp_step rfl (fun K' hK => ?_)
         rw [if_pos (wanted_of 33 143 true rfl rfl d33)]
         go_simp
         exact hK _ _ ⟨_, rfl, rfl, fun _ _ _ h => h, hC⟩
        ·have d34 : A.tmps[144]?.getD undef = .int .i64 er := fI hd 34 144
         have d33 : A.tmps[143]?.getD undef = .bool true := fI hd 33 143
         refine wpOp_step rfl (fun K' hK => ?_)
         rw [if_pos (wanted_of 33 143 true rfl rfl d33)]
         go_simp
         exact hK _ _ ⟨_, rfl, rfl, fun _ _ _ h => h, hC⟩
        ·have d33 : A.tmps[143]?.getD undef = .bool true := fI hd 33 143
         have d35 : A.tmps[145]?.getD undef = .bool false := fI hd 35 145
         have d30 : A.tmps[140]?.getD undef = .bool false := fI hd 30 140
         refine wpOp_step rfl (fun K' hK => ?_)
         rw [if_pos (wanted_of 30 140 false rfl rfl d30)]
         go_simp
         exact hK _ _ ⟨_, rfl, rfl, fun _ _ _ h => h, hC⟩
        ·have d30 : A.tmps[140]?.getD undef = .bool false := fI hd 30 140
         have d36 : A.tmps[146]?.getD undef = .bool false := fI hd 36 146
         refine wpOp_step rfl (fun K' hK => ?_)
         go_simp
         exact hK _ _ ⟨_, rfl, rfl, fun _ _ _ h => h, hC⟩
       ·intro x W hC hR
        have h37 : x 37 = .bool false := hR 37 (by decide)
        simp only [putL, Act.put, Nat.zero_add, Nat.reduceAdd, List.setIfInBounds_toArray, List.set_cons_succ, List.set_cons_zero]
        generalize x 0 = xx0
        generalize x 1 = xx1
        generalize x 2 = xx2
        generalize x 3 = xx3
        generalize x 4 = xx4
        generalize x 5 = xx5
        generalize x 6 = xx6
        generalize x 7 = xx7
        generalize x 8 = xx8
        generalize x 9 = xx9
        generalize x 10 = xx10
        generalize x 11 = xx11
        generalize x 12 = xx12
        generalize x 13 = xx13
        generalize x 14 = xx14
        generalize x 15 = xx15
        generalize x 16 = xx16
        generalize x 17 = xx17
        generalize x 18 = xx18
        generalize x 19 = xx19
        generalize x 20 = xx20
        generalize x 21 = xx21
        generalize x 22 = xx22
        generalize x 23 = xx23
        generalize x 24 = xx24
        generalize x 25 = xx25
        generalize x 26 = xx26
        generalize x 27 = xx27
        generalize x 28 = xx28
        generalize x 29 = xx29
        generalize x 30 = xx30
        generalize x 31 = xx31
        generalize x 32 = xx32
        generalize x 33 = xx33
        generalize x 34 = xx34
        generalize x 35 = xx35
        generalize x 36 = xx36
        rw [h37]
        clear hR h37
        have HBF := hide (HZY.out.trans (hC.mono HZY.out.size))
        clear hC
        go_wp2
        exact ⟨⟨2, by have := HLT.out; omega, by go_num, HBF.out⟩, by have := HLT.out; simp [intOf]; try omega⟩
      ·have hi00 : ((i : Int) == 0) = false := by rw [beq_eq_false_iff_ne]; omega
       have hi11 : ((i : Int) == 1) = false := by rw [beq_eq_false_iff_ne]; omega
       refine wp_region_all [some 110, some 111, some 112, some 113, some 114, some 115, some 116, some 117, some 118, some 119, some 120, some 121, some 122, some 123, some 124, some 125, some 126, some 127, some 128, some 129, some 130, some 131, some 132, some 133, some 134, some 135, some 136, some 137, some 138, some 139, some 140, some 141, some 142, some 143, some 144, some 145, some 146, some 147] (gAll (ksB14c TX TY E7 nb us gb nbc er i)) (fun W => Below Y.heap.size Y W)
        (by kernel_rfl) (by kernel_rfl) (by rfl) (by decide) (by rfl) HYR.out.drew ?_ ?_
       ·intro j hj A x W hC hd hr
        have stay : ∀ W', Below W.heap.size W W' → Below Y.heap.size Y W' := fun W' hb => hC.trans (hb.mono hC.size)
        have KSS := ksB14c_stab TX TY E7 nb us gb nbc er i
        have hj' : j = 0 ∨ j = 1 ∨ j = 2 ∨ j = 3 ∨ j = 4 ∨ j = 5 ∨ j = 6 ∨ j = 7 ∨ j = 8 ∨ j = 9 ∨ j = 10 ∨ j = 11 ∨ j = 12 ∨ j = 13 ∨ j = 14 ∨ j = 15 ∨ j = 16 ∨ j = 17 ∨ j = 18 ∨ j = 19 ∨ j = 20 ∨ j = 21 ∨ j = 22 ∨ j = 23 ∨ j = 24 ∨ j = 25 ∨ j = 26 ∨ j = 27 ∨ j = 28 ∨ j = 29 ∨ j = 30 ∨ j = 31 ∨ j = 32 ∨ j = 33 ∨ j = 34 ∨ j = 35 ∨ j = 36 ∨ j = 37 := by
         have hn : j < 38 := hj
         omega
        rcases hj' with rfl | rfl | rfl | rfl | rfl | rfl | rfl | rfl | rfl | rfl | rfl | rfl | rfl | rfl | rfl | rfl | rfl | rfl | rfl | rfl | rfl | rfl | rfl | rfl | rfl | rfl | rfl | rfl | rfl | rfl | rfl | rfl | rfl | rfl | rfl | rfl | rfl | rfl
        ·have e21 : A.tmps[21]?.getD undef = .int .i64 er := hr 21 (by decide)
         refine wpOp_step rfl (fun K' hK => ?_)
         go_simp
         exact hK _ _ ⟨_, rfl, rfl, fun _ _ _ h => h, hC⟩
        ·have e24 : A.tmps[24]?.getD undef = .int .i64 er := hr 24 (by decide)
         refine wpOp_step rfl (fun K' hK => ?_)
         go_simp
         exact hK _ _ ⟨_, rfl, rfl, fun _ _ _ h => h, hC⟩
        ·have d0 : A.tmps[110]?.getD undef = .int .i64 er := fI hd 0 110
         have d1 : A.tmps[111]?.getD undef = .int .i64 er := fI hd 1 111
         refine wpOp_step rfl (fun K' hK => ?_)
         go_simp
         exact hK _ _ ⟨_, rfl, rfl, fun _ _ _ h => h, hC⟩
        ·have d2 : A.tmps[112]?.getD undef = .bool false := fI hd 2 112
         refine wpOp_step rfl (fun K' hK => ?_)
         go_simp
         exact hK _ _ ⟨_, rfl, rfl, fun _ _ _ h => h, hC⟩
        ·have e20 : A.tmps[20]?.getD undef = .int .i64 (us : Int) := hr 20 (by decide)
         have d3 : A.tmps[113]?.getD undef = .bool false := fI hd 3 113
         refine wpOp_step rfl (fun K' hK => ?_)
         rw [if_pos (wanted_of 3 113 false rfl rfl d3)]
         go_simp
         exact hK _ _ ⟨_, rfl, rfl, fun _ _ _ h => h, hC⟩
        ·have e23 : A.tmps[23]?.getD undef = .int .i64 (us : Int) := hr 23 (by decide)
         have d3 : A.tmps[113]?.getD undef = .bool false := fI hd 3 113
         refine wpOp_step rfl (fun K' hK => ?_)
         rw [if_pos (wanted_of 3 113 false rfl rfl d3)]
         go_simp
         exact hK _ _ ⟨_, rfl, rfl, fun _ _ _ h => h, hC⟩
        ·have d4 : A.tmps[114]?.getD undef = .int .i64 (us : Int) := fI hd 4 114
         have d5 : A.tmps[115]?.getD undef = .int .i64 (us : Int) := fI hd 5 115
         have d3 : A.tmps[113]?.getD undef = .bool false := fI hd 3 113
         refine wpOp_step rfl (fun K' hK => ?_)
         rw [if_pos (wanted_of 3 113 false rfl rfl d3)]
         go_simp
         exact hK _ _ ⟨_, rfl, rfl, fun _ _ _ h => h, hC⟩
        ·have d3 : A.tmps[113]?.getD undef = .bool false := fI hd 3 113
         have d6 : A.tmps[116]?.getD undef = .bool false := fI hd 6 116
         refine wpOp_step rfl (fun K' hK => ?_)
         go_simp
         exact hK _ _ ⟨_, rfl, rfl, fun _ _ _ h => h, hC⟩
        ·have d7 : A.tmps[117]?.getD undef = .bool false := fI hd 7 117
         refine wpOp_step rfl (fun K' hK => ?_)
         go_simp
         exact hK _ _ ⟨_, rfl, rfl, fun _ _ _ h => h, hC⟩
        ·have e19 : A.tmps[19]?.getD undef = .pointer (some ⟨g19, 0, none⟩) := hr 19 (by decide)
         have d8 : A.tmps[118]?.getD undef = .bool false := fI hd 8 118
         refine wpOp_step rfl (fun K' hK => ?_)
         rw [if_pos (wanted_of 8 118 false rfl rfl d8)]
         obtain ⟨t0, t1, t2, t3, t4, t5, t6⟩ := HC7.out W hC
         go_simp
         exact hK _ _ ⟨_, rfl, HTVX.out, fun _ _ _ h => h, hC⟩
        ·have d9 : A.tmps[119]?.getD undef = TX := fI hd 9 119
         have d8 : A.tmps[118]?.getD undef = .bool false := fI hd 8 118
         refine wpOp_step rfl (fun K' hK => ?_)
         rw [if_pos (wanted_of 8 118 false rfl rfl d8)]
         go_simp
         go_at_call 8
         refine (CE7.out W hC).mono ?_
         rintro e W' ⟨v, rfl, hv, hb⟩
         exact hK _ _ ⟨_, rfl, hv, fun k' _ u h => gAll_below KSS hb k' u h, stay _ hb⟩
        ·have e22 : A.tmps[22]?.getD undef = .pointer (some ⟨g22, 0, none⟩) := hr 22 (by decide)
         have d8 : A.tmps[118]?.getD undef = .bool false := fI hd 8 118
         refine wpOp_step rfl (fun K' hK => ?_)
         rw [if_pos (wanted_of 8 118 false rfl rfl d8)]
         obtain ⟨t0, t1, t2, t3, t4, t5, t6⟩ := HC8.out W hC
         go_simp
         exact hK _ _ ⟨_, rfl, HTVY.out, fun _ _ _ h => h, hC⟩
        ·have d11 : A.tmps[121]?.getD undef = TY := fI hd 11 121
         have d8 : A.tmps[118]?.getD undef = .bool false := fI hd 8 118
         refine wpOp_step rfl (fun K' hK => ?_)
         rw [if_pos (wanted_of 8 118 false rfl rfl d8)]
         go_simp
         go_at_call 8
         refine (CE8.out W hC).mono ?_
         rintro e W' ⟨v, rfl, hv, hb⟩
         exact hK _ _ ⟨_, rfl, hv, fun k' _ u h => gAll_below KSS hb k' u h, stay _ hb⟩
        ·have d10 : A.tmps[120]?.getD undef = x 10 := (hd 10 (by decide)).1 120 rfl
         have r10 : gBs E7 W (x 10) := (hd 10 (by decide)).2
         have d12 : A.tmps[122]?.getD undef = x 12 := (hd 12 (by decide)).1 122 rfl
         have r12 : gBs E7 W (x 12) := (hd 12 (by decide)).2
         have d8 : A.tmps[118]?.getD undef = .bool false := fI hd 8 118
         refine wpOp_step rfl (fun K' hK => ?_)
         rw [if_pos (wanted_of 8 118 false rfl rfl d8)]
         go_simp
         go_at_call 7
         refine (sameBs_call E7 _ _ W r10 r12 HE7.out).mono ?_
         rintro e W' ⟨rfl, hb⟩
         exact hK _ _ ⟨_, rfl, rfl, fun k' _ u h => gAll_below KSS hb k' u h, stay _ hb⟩
        ·have d13 : A.tmps[123]?.getD undef = .bool true := fI hd 13 123
         have d8 : A.tmps[118]?.getD undef = .bool false := fI hd 8 118
         refine wpOp_step rfl (fun K' hK => ?_)
         rw [if_pos (wanted_of 8 118 false rfl rfl d8)]
         go_simp
         exact hK _ _ ⟨_, rfl, rfl, fun _ _ _ h => h, hC⟩
        ·have d8 : A.tmps[118]?.getD undef = .bool false := fI hd 8 118
         have d14 : A.tmps[124]?.getD undef = .bool false := fI hd 14 124
         refine wpOp_step rfl (fun K' hK => ?_)
         go_simp
         exact hK _ _ ⟨_, rfl, rfl, fun _ _ _ h => h, hC⟩
        ·have d15 : A.tmps[125]?.getD undef = .bool false := fI hd 15 125
         refine wpOp_step rfl (fun K' hK => ?_)
         go_simp
         exact hK _ _ ⟨_, rfl, rfl, fun _ _ _ h => h, hC⟩
        ·have e18 : A.tmps[18]?.getD undef = .int .i64 (i : Int) := hr 18 (by decide)
         have d16 : A.tmps[126]?.getD undef = .bool false := fI hd 16 126
         refine wpOp_step rfl (fun K' hK => ?_)
         rw [if_pos (wanted_of 16 126 false rfl rfl d16)]
         go_simp
         exact hK _ _ ⟨_, rfl, rfl, fun _ _ _ h => h, hC⟩
        ·have d17 : A.tmps[127]?.getD undef = .int .i64 (i : Int) := fI hd 17 127
         have d16 : A.tmps[126]?.getD undef = .bool false := fI hd 16 126
         refine wpOp_step rfl (fun K' hK => ?_)
         rw [if_pos (wanted_of 16 126 false rfl rfl d16)]
         go_simp
         exact hK _ _ ⟨_, rfl, rfl, fun _ _ _ h => h, hC⟩
        ·have d18 : A.tmps[128]?.getD undef = .bool false := fI hd 18 128
         have d16 : A.tmps[126]?.getD undef = .bool false := fI hd 16 126
         refine wpOp_step rfl (fun K' hK => ?_)
         rw [if_pos (wanted_of 16 126 false rfl rfl d16)]
         go_simp
         exact hK _ _ ⟨_, rfl, rfl, fun _ _ _ h => h, hC⟩
        ·have d19 : A.tmps[129]?.getD undef = .bool false := fI hd 19 129
         refine wpOp_step rfl (fun K' hK => ?_)
         rw [if_neg (unwanted_of 19 129 true _ rfl rfl d19 (by rfl))]
         exact hK _ _ ⟨undef, rfl, rfl, fun _ _ _ h => h, hC⟩
        ·have d19 : A.tmps[129]?.getD undef = .bool false := fI hd 19 129
         refine wpOp_step rfl (fun K' hK => ?_)
         rw [if_neg (unwanted_of 19 129 true _ rfl rfl d19 (by rfl))]
         exact hK _ _ ⟨undef, rfl, rfl, fun _ _ _ h => h, hC⟩
        ·have d19 : A.tmps[129]?.getD undef = .bool false := fI hd 19 129
         refine wpOp_step rfl (fun K' hK => ?_)
         rw [if_neg (unwanted_of 19 129 true _ rfl rfl d19 (by rfl))]
         exact hK _ _ ⟨undef, rfl, rfl, fun _ _ _ h => h, hC⟩
        ·have d22 : A.tmps[132]?.getD undef = undef := fI hd 22 132
         refine wpOp_step rfl (fun K' hK => ?_)
         rw [if_neg (unwanted_of 22 132 false _ rfl rfl d22 (by rfl))]
         exact hK _ _ ⟨undef, rfl, rfl, fun _ _ _ h => h, hC⟩
        ·have d22 : A.tmps[132]?.getD undef = undef := fI hd 22 132
         refine wpOp_step rfl (fun K' hK => ?_)
         rw [if_neg (unwanted_of 22 132 false _ rfl rfl d22 (by rfl))]
         exact hK _ _ ⟨undef, rfl, rfl, fun _ _ _ h => h, hC⟩
        ·have d22 : A.tmps[132]?.getD undef = undef := fI hd 22 132
         refine wpOp_step rfl (fun K' hK => ?_)
         rw [if_neg (unwanted_of 22 132 false _ rfl rfl d22 (by rfl))]
         exact hK _ _ ⟨undef, rfl, rfl, fun _ _ _ h => h, hC⟩
        ·have d22 : A.tmps[132]?.getD undef = undef := fI hd 22 132
         refine wpOp_step rfl (fun K' hK => ?_)
         rw [if_neg (unwanted_of 22 132 false _ rfl rfl d22 (by rfl))]
         exact hK _ _ ⟨undef, rfl, rfl, fun _ _ _ h => h, hC⟩
        ·have d19 : A.tmps[129]?.getD undef = .bool false := fI hd 19 129
         refine wpOp_step rfl (fun K' hK => ?_)
         rw [if_neg (unwanted_of 19 129 true _ rfl rfl d19 (by rfl))]
         exact hK _ _ ⟨undef, rfl, rfl, fun _ _ _ h => h, hC⟩
        ·have d19 : A.tmps[129]?.getD undef = .bool false := fI hd 19 129
         have d27 : A.tmps[137]?.getD undef = undef := fI hd 27 137
         have d16 : A.tmps[126]?.getD undef = .bool false := fI hd 16 126
         refine wpOp_step rfl (fun K' hK => ?_)
         rw [if_pos (wanted_of 16 126 false rfl rfl d16)]
         go_simp
         exact hK _ _ ⟨_, rfl, rfl, fun _ _ _ h => h, hC⟩
        ·have d16 : A.tmps[126]?.getD undef = .bool false := fI hd 16 126
         have d28 : A.tmps[138]?.getD undef = .bool false := fI hd 28 138
         refine wpOp_step rfl (fun K' hK => ?_)
         go_simp
         exact hK _ _ ⟨_, rfl, rfl, fun _ _ _ h => h, hC⟩
        ·have d29 : A.tmps[139]?.getD undef = .bool false := fI hd 29 139
         refine wpOp_step rfl (fun K' hK => ?_)
         go_simp
         exact hK _ _ ⟨_, rfl, rfl, fun _ _ _ h => h, hC⟩
        ·have e18 : A.tmps[18]?.getD undef = .int .i64 (i : Int) := hr 18 (by decide)
         have d30 : A.tmps[140]?.getD undef = .bool false := fI hd 30 140
         refine wpOp_step rfl (fun K' hK => ?_)
         rw [if_pos (wanted_of 30 140 false rfl rfl d30)]
         go_simp
         exact hK _ _ ⟨_, rfl, rfl, fun _ _ _ h => h, hC⟩
        ·have d31 : A.tmps[141]?.getD undef = .int .i64 (i : Int) := fI hd 31 141
         have d30 : A.tmps[140]?.getD undef = .bool false := fI hd 30 140
         refine wpOp_step rfl (fun K' hK => ?_)
         rw [if_pos (wanted_of 30 140 false rfl rfl d30)]
         go_simp
         exact hK _ _ ⟨_, rfl, rfl, fun _ _ _ h => h, hC⟩
        ·have d32 : A.tmps[142]?.getD undef = .bool false := fI hd 32 142
         have d30 : A.tmps[140]?.getD undef = .bool false := fI hd 30 140
         refine wpOp_step rfl (fun K' hK => ?_)
         rw [if_pos (wanted_of 30 140 false rfl rfl d30)]
         go_simp
         exact hK _ _ ⟨_, rfl, rfl, fun _ _ _ h => h, hC⟩
        ·have d33 : A.tmps[143]?.getD undef = .bool false := fI hd 33 143
         refine wpOp_step rfl (fun K' hK => ?_)
         rw [if_neg (unwanted_of 33 143 true _ rfl rfl d33 (by rfl))]
         exact hK _ _ ⟨undef, rfl, rfl, fun _ _ _ h => h, hC⟩
        ·have d33 : A.tmps[143]?.getD undef = .bool false := fI hd 33 143
         refine wpOp_step rfl (fun K' hK => ?_)
         rw [if_neg (unwanted_of 33 143 true _ rfl rfl d33 (by rfl))]
         exact hK _ _ ⟨undef, rfl, rfl, fun _ _ _ h => h, hC⟩
        ·have d33 : A.tmps[143]?.getD undef = .bool false := fI hd 33 143
         have d35 : A.tmps[145]?.getD undef = undef := fI hd 35 145
         have d30 : A.tmps[140]?.getD undef = .bool false := fI hd 30 140
         refine wpOp_step rfl (fun K' hK => ?_)
         rw [if_pos (wanted_of 30 140 false rfl rfl d30)]
         go_simp
         exact hK _ _ ⟨_, rfl, rfl, fun _ _ _ h => h, hC⟩
        ·have d30 : A.tmps[140]?.getD undef = .bool false := fI hd 30 140
         have d36 : A.tmps[146]?.getD undef = .bool false := fI hd 36 146
         refine wpOp_step rfl (fun K' hK => ?_)
         go_simp
         exact hK _ _ ⟨_, rfl, rfl, fun _ _ _ h => h, hC⟩
       ·intro x W hC hR
        have h37 : x 37 = .bool false := hR 37 (by decide)
        simp only [putL, Act.put, Nat.zero_add, Nat.reduceAdd, List.setIfInBounds_toArray, List.set_cons_succ, List.set_cons_zero]
        generalize x 0 = xx0
        generalize x 1 = xx1
        generalize x 2 = xx2
        generalize x 3 = xx3
        generalize x 4 = xx4
        generalize x 5 = xx5
        generalize x 6 = xx6
        generalize x 7 = xx7
        generalize x 8 = xx8
        generalize x 9 = xx9
        generalize x 10 = xx10
        generalize x 11 = xx11
        generalize x 12 = xx12
        generalize x 13 = xx13
        generalize x 14 = xx14
        generalize x 15 = xx15
        generalize x 16 = xx16
        generalize x 17 = xx17
        generalize x 18 = xx18
        generalize x 19 = xx19
        generalize x 20 = xx20
        generalize x 21 = xx21
        generalize x 22 = xx22
        generalize x 23 = xx23
        generalize x 24 = xx24
        generalize x 25 = xx25
        generalize x 26 = xx26
        generalize x 27 = xx27
        generalize x 28 = xx28
        generalize x 29 = xx29
        generalize x 30 = xx30
        generalize x 31 = xx31
        generalize x 32 = xx32
        generalize x 33 = xx33
        generalize x 34 = xx34
        generalize x 35 = xx35
        generalize x 36 = xx36
        rw [h37]
        clear hR h37
        have HBF := hide (HZY.out.trans (hC.mono HZY.out.size))
        clear hC
        go_wp2
        exact ⟨⟨i + 1, by have := HLT.out; omega, by go_num, HBF.out⟩, by have := HLT.out; simp [intOf]; try omega⟩
    ·obtain rfl : i = 4 := by omega
     have HWZ2 := hide (HWZ.out.trans (hbel.mono HWZ.out.size))
     clear hbel
     go_upto_region 17 with (go_at_call 5; refine (unhide CT wd).mono ?_; rintro e z1 ⟨v, u, rfl, hta, hte, hb1⟩; have HUA := hide hta; have HUE := hide hte; have HZ1 := hide (HWZ2.out.trans (hb1.mono HWZ2.out.size)); obtain ⟨Au, Bu, cu, du, rfl, htq⟩ := hta; clear htq hb1 hte)
     have hu40 : u.r0.length ≤ 40 := (fit_tablesT HUE.out).1
     refine name_world fun U1 hU => ?_
     have T25 := hide (show Blk U1 z1.heap.size 29 #[.slice Au u.r0.length cu, .slice Bu u.r1.length du, .slice u.dig.ad u.dig.l.length u.dig.c, .slice u.cap.ad u.cap.l.length u.cap.c, .slice u.num.ad u.num.l.length u.num.c, .slice u.fin.ad u.fin.l.length u.fin.c, .slice u.sw.ad u.sw.l.length u.sw.c] by rw [← hU.out]; exact Blk.new z1 _ _)
     have HU1 := hide (show Below z1.heap.size z1 U1 by rw [← hU.out]; exact below_alloc z1 _)
     have p0 := T25.out.cell 0
     have p1 := T25.out.cell 1
     have p2 := T25.out.cell 2
     have p3 := T25.out.cell 3
     have p4 := T25.out.cell 4
     have p5 := T25.out.cell 5
     have p6 := T25.out.cell 6
     simp only [List.getElem?_toArray, List.getElem?_cons_succ, List.getElem?_cons_zero] at p0 p1 p2 p3 p4 p5 p6
     obtain ⟨g25, hg25⟩ : ∃ g25, g25 = z1.heap.size := ⟨_, rfl⟩
     rw [← hg25] at T25 p0 p1 p2 p3 p4 p5 p6 ⊢
     have HG25 := hide hg25
     clear hU hg25
     go_upto_region 18 with fail
     refine name_world fun U hU => ?_
     have T26 := hide (show Blk U U1.heap.size 29 #[.slice Au u.r0.length cu, .slice Bu u.r1.length du, .slice u.dig.ad u.dig.l.length u.dig.c, .slice u.cap.ad u.cap.l.length u.cap.c, .slice u.num.ad u.num.l.length u.num.c, .slice u.fin.ad u.fin.l.length u.fin.c, .slice u.sw.ad u.sw.l.length u.sw.c] by rw [← hU.out]; exact Blk.new U1 _ _)
     have HU2 := hide (show Below U1.heap.size U1 U by rw [← hU.out]; exact below_alloc U1 _)
     have T25b := hide (T25.out.below HU2.out T25.out.lt)
     have HZU := hide (show Below z1.heap.size z1 U from HU1.out.trans (HU2.out.mono HU1.out.size))
     obtain ⟨g26, hg26⟩ : ∃ g26, g26 = U1.heap.size := ⟨_, rfl⟩
     rw [← hg26] at T26 ⊢
     have HG26 := hide (show g25 < g26 ∧ z1.heap.size ≤ g25 ∧ g26 < U.heap.size from by
      have h1 := T25.out.lt
      have h2 := T26.out.lt
      have h3 := HG25.out
      omega)
     clear hU hg26 p0 p1 p2 p3 p4 p5 p6 T25
     have hAu := HUA.out
     obtain ⟨Au', Bu', cu', du', hvu, hru0, _⟩ := hAu
     injection hvu with hvu
     have hvu0 : Au = Au' ∧ cu = cu' := by
      have h := congrArg (fun q => q[0]?) hvu
      simp only [List.getElem?_toArray, List.getElem?_cons_zero, Option.some.injEq, Value.slice.injEq] at h
      exact ⟨h.1, h.2.2⟩
     obtain ⟨rfl, rfl⟩ := hvu0
     have HRU := hide hru0.1
     clear hvu hru0
     obtain ⟨j0, hj, hy0, hy1, hy2⟩ := info_parts ruleInfo3'
     have HJ := hide hj
     have HY0 := hide hy0
     have HY1 := hide hy1
     have HY2 := hide hy2
     clear hj hy0 hy1 hy2
     obtain ⟨nr, hnr⟩ : ∃ nr, nr = u.r0.length := ⟨_, rfl⟩
     rw [← hnr] at HRU T25b T26 hu40 ⊢
     have HNR := hide hnr
     clear hnr
     have hca : ∀ o, (U.alloc o).cell? ⟨g25, 0, none⟩ = some (.slice Au nr cu) := fun o => (T25b.out.alloc o).cell 0
     have HRU1 := hide (((HRU.out.below HZU.out).more HZU.out.size).alloc (Nat.le_refl _) (.cells #[] 45))
     go_upto_region 19 with (first
      | (at_builtin; refine wpList_append_any _ rfl (.tmp 151) (.tmp 155) 24 rfl U.heap.size 45 j0 (.agg #[.string { data := #[] }, .int .i64 0, .slice none 0 0]) 3 48 Tryd.underlying24 HJ.out HY0.out HY1.out HY2.out rfl (by omega) _ 0 [] rfl (own_emptyR U) _ Au nr cu (RC u.r0) rfl HRU1.out (RC_one u.r0) (by unfold maxLen; omega) (by omega) (by simp) ?_; intro v6 w6 hown6 hgrow6 hat6; rw [Nat.zero_add, List.nil_append] at hown6; have HO6 := hide hown6; have HB6 := hide (show Below U.heap.size U w6 from (below_alloc U (.cells #[] 45)).trans (below_grown hgrow6 (own_emptyR U) (by simp))); clear hown6 hgrow6 hat6)
      | (at_builtin; refine wpList_append_any _ rfl (.tmp 156) (.tmp 159) 24 rfl U.heap.size 45 j0 (.agg #[.string { data := #[] }, .int .i64 0, .slice none 0 0]) 3 48 Tryd.underlying24 HJ.out HY0.out HY1.out HY2.out rfl (by omega) v6 nr (RC u.r0) rfl (own_below (own_below HO6.out (below_alloc w6 (.cells #[.int .u8 9] 5))) (below_alloc _ (.cells #[.string { data := #[113, 113, 113] }, .int .i64 0, .slice (some ⟨w6.heap.size, 0, none⟩) 1 1] 45))) _ (some ⟨w6.heap.size + 1, 0, none⟩) 1 1 (ruC (qAt w6.heap.size)) rfl (reads_more w6) (ruC_one _) (by unfold maxLen; omega) (by omega) (by have := HB6.out.size; simp; omega) ?_; intro v8 w8 hown8 hgrow8 hat8; have HO8 := hide hown8; have HB8 := hide (show Below U.heap.size U w8 from (HB6.out.trans (((below_alloc w6 (.cells #[.int .u8 9] 5)).trans ((below_alloc _ (.cells #[.string { data := #[113, 113, 113] }, .int .i64 0, .slice (some ⟨w6.heap.size, 0, none⟩) 1 1] 45)).mono (by simp))).mono HB6.out.size)).trans (below_grown hgrow8 (own_below (own_below HO6.out (below_alloc w6 (.cells #[.int .u8 9] 5))) (below_alloc _ (.cells #[.string { data := #[113, 113, 113] }, .int .i64 0, .slice (some ⟨w6.heap.size, 0, none⟩) 1 1] 45))) (by have := HB6.out.size; simp; omega))); have HQ8 := hide (cell_kept w6 hgrow8 (own_ne6 HO6.out)); have hc26 : w8.cell? ⟨g26, 0, none⟩ = some (.slice Au nr cu) := (T26.out.below HB8.out T26.out.lt).cell 0; have hf26 := (T26.out.below HB8.out T26.out.lt).frozen 0; clear hown8 hgrow8 hat8; obtain ⟨A8, c8, rfl, hc8, _⟩ := own_slice HO8.out))
     refine name_world fun Y hY => ?_
     have hlt8 := HO8.out.lt
     have HOY := hide (show Y.ownsRow U.heap.size 45 3 (.slice A8 (nr + 1) c8) (nr + 1) (RC u.r0 ++ ruC (qAt w6.heap.size)) from by rw [← hY.out]; exact own_grownOff HO8.out (only_setCell (p := ⟨g26, 0, none⟩) (World.grownBy.refl w8 (some g26)) (.inl rfl) _) (fun g hg he => by injection hg with hg; have h1 := (hlt8 g he).1; have h2 : g26 = g := hg; have := HG26.out; omega))
     have HQY := hide (show Blk Y w6.heap.size 5 #[.int .u8 9] from by rw [← hY.out]; exact HQ8.out.grown (only_setCell (p := ⟨g26, 0, none⟩) (World.grownBy.refl w8 (some g26)) (.inl rfl) _) (fun he => by injection he with he; have h1 := HB6.out.size; have := HG26.out; omega))
     have HZY := hide (show Below z1.heap.size z1 Y from by rw [← hY.out]; exact (HZU.out.trans (HB8.out.mono HZU.out.size)).setCell (p := ⟨g26, 0, none⟩) (by have := HG26.out; show z1.heap.size ≤ g26; omega) _)
     have Q26 := hide (show Blk Y g26 29 #[.slice A8 (nr + 1) c8, .slice Bu u.r1.length du, .slice u.dig.ad u.dig.l.length u.dig.c, .slice u.cap.ad u.cap.l.length u.cap.c, .slice u.num.ad u.num.l.length u.num.c, .slice u.fin.ad u.fin.l.length u.fin.c, .slice u.sw.ad u.sw.l.length u.sw.c] from by rw [← hY.out]; exact (T26.out.below HB8.out T26.out.lt).set_ 0 _)
     have Q25 := hide (show Blk Y g25 29 #[.slice Au nr cu, .slice Bu u.r1.length du, .slice u.dig.ad u.dig.l.length u.dig.c, .slice u.cap.ad u.cap.l.length u.cap.c, .slice u.num.ad u.num.l.length u.num.c, .slice u.fin.ad u.fin.l.length u.fin.c, .slice u.sw.ad u.sw.l.length u.sw.c] from by rw [← hY.out]; exact (T25b.out.below HB8.out T25b.out.lt).grown (only_setCell (p := ⟨g26, 0, none⟩) (World.grownBy.refl w8 (some g26)) (.inl rfl) _) (fun he => by injection he with he; have := HG26.out; omega))
     clear hY hlt8 hca hc26 hf26 hc8 HRU1 HRU HQ8 HO8 HO6 T26 T25b
     have HTU := hide ((HUA.out.below HZY.out).more HZY.out.size)
     have hnru := HNR.out
     have HTM := hide (tab_more HUA.out (by have := hu40; omega) HZY.out (by rw [← hnru]; exact HOY.out) HQY.out)
     rw [← hnru] at HTU HTM
     clear hnru
     have HWY := hide (HZ1.out.trans (HZY.out.mono HZ1.out.size))
     have CS1 := hide (CS.out Y HWY.out)
     obtain ⟨TVu, hTVu⟩ : ∃ TVu : Value, TVu = .agg #[.slice Au nr cu, .slice Bu u.r1.length du, .slice u.dig.ad u.dig.l.length u.dig.c, .slice u.cap.ad u.cap.l.length u.cap.c, .slice u.num.ad u.num.l.length u.num.c, .slice u.fin.ad u.fin.l.length u.fin.c, .slice u.sw.ad u.sw.l.length u.sw.c] := ⟨_, rfl⟩
     have HTVu := hide hTVu.symm
     obtain ⟨TVm, hTVm⟩ : ∃ TVm : Value, TVm = .agg #[.slice A8 (nr + 1) c8, .slice Bu u.r1.length du, .slice u.dig.ad u.dig.l.length u.dig.c, .slice u.cap.ad u.cap.l.length u.cap.c, .slice u.num.ad u.num.l.length u.num.c, .slice u.fin.ad u.fin.l.length u.fin.c, .slice u.sw.ad u.sw.l.length u.sw.c] := ⟨_, rfl⟩
     have HTVm := hide hTVm.symm
     rw [← hTVu] at HTU
     rw [← hTVm] at HTM
     clear hTVu hTVm HOY HQY HUA CS
     generalize u.r1.length = nu1 at *
     generalize u.dig.l.length = nudig at *
     generalize u.cap.l.length = nucap at *
     generalize u.num.l.length = nunum at *
     generalize u.fin.l.length = nufin at *
     generalize u.sw.l.length = nusw at *
     go_upto_region 20 with (go_at_call 16; refine (unhide CS1).mono ?_; rintro e S ⟨A', c', rfl, hc', htx, hb2⟩; have HXS := hide htx; have HBS2 := hide hb2; have hcc' := hc'; clear hb2 htx hc')
     have HTUS := hide ((HTU.out.below HBS2.out).more HBS2.out.size)
     have HTMS := hide ((HTM.out.below HBS2.out).more HBS2.out.size)
     have HWS := hide (HWY.out.trans (HBS2.out.mono HWY.out.size))
     have Q26S := hide (Q26.out.below HBS2.out Q26.out.lt)
     have Q25S := hide (Q25.out.below HBS2.out Q25.out.lt)
     clear CS1 Q26 Q25 HTU HTM
     obtain ⟨m, hme⟩ : ∃ m, m = tx.length := ⟨_, rfl⟩
     have HM := hide hme
     have HCC := hide hcc'
     have hmb : m ≤ 1048576 := by rw [hme]; exact HXS.out.2
     rw [← hme]
     clear hme hcc'
     have HQ25 := hide (fun (W : World) (hb : Below S.heap.size S W) => (show W.cell? ⟨g25, 0, none⟩ = some (.slice Au nr cu) ∧ W.cell? ⟨g25, 1, none⟩ = some (.slice Bu nu1 du) ∧ W.cell? ⟨g25, 2, none⟩ = some (.slice u.dig.ad nudig u.dig.c) ∧ W.cell? ⟨g25, 3, none⟩ = some (.slice u.cap.ad nucap u.cap.c) ∧ W.cell? ⟨g25, 4, none⟩ = some (.slice u.num.ad nunum u.num.c) ∧ W.cell? ⟨g25, 5, none⟩ = some (.slice u.fin.ad nufin u.fin.c) ∧ W.cell? ⟨g25, 6, none⟩ = some (.slice u.sw.ad nusw u.sw.c) from by
      have Q := Q25S.out.below hb Q25S.out.lt
      exact ⟨Q.cell 0, Q.cell 1, Q.cell 2, Q.cell 3, Q.cell 4, Q.cell 5, Q.cell 6⟩))
     have HQ26 := hide (fun (W : World) (hb : Below S.heap.size S W) => (show W.cell? ⟨g26, 0, none⟩ = some (.slice A8 (nr + 1) c8) ∧ W.cell? ⟨g26, 1, none⟩ = some (.slice Bu nu1 du) ∧ W.cell? ⟨g26, 2, none⟩ = some (.slice u.dig.ad nudig u.dig.c) ∧ W.cell? ⟨g26, 3, none⟩ = some (.slice u.cap.ad nucap u.cap.c) ∧ W.cell? ⟨g26, 4, none⟩ = some (.slice u.num.ad nunum u.num.c) ∧ W.cell? ⟨g26, 5, none⟩ = some (.slice u.fin.ad nufin u.fin.c) ∧ W.cell? ⟨g26, 6, none⟩ = some (.slice u.sw.ad nusw u.sw.c) from by
      have Q := Q26S.out.below hb Q26S.out.lt
      exact ⟨Q.cell 0, Q.cell 1, Q.cell 2, Q.cell 3, Q.cell 4, Q.cell 5, Q.cell 6⟩))
     clear Q26S Q25S
     obtain ⟨TX, hTX⟩ : ∃ TX : Value, TX = .slice A' m c' := ⟨_, rfl⟩
     have HTXV := hide hTX
     have HSS := hide (Below.refl S.heap.size S)
     clear hTX
     go_wp2
     go_loopw [28] (fun q wr => ∃ i : Nat, i ≤ m ∧ q = .int .i64 (i : Int) ∧ Below S.heap.size S wr) (fun q _ => m - (intOf q).toNat)
     case atStart => exact ⟨0, by omega, rfl, HSS.out⟩
     case round =>
      obtain ⟨i, hi, rfl, hbel⟩ := hrel
      obtain ⟨wi, rfl⟩ : ∃ wi, wi = wr := ⟨wr, rfl⟩
      have HBI := hide hbel
      clear hbel
      have hi0 : (0 : Int) ≤ (i : Int) := by omega
      by_cases hlt : (i : Int) < (m : Int)
      ·have HLT2 := hide (show i < m by omega)
       obtain ⟨L, hL⟩ : ∃ L, L = Tb.steps u ⟨0, false, false⟩ tx (i : Int) := ⟨_, rfl⟩
       have hLm := HSY.out u w6.heap.size HUE.out (i : Int)
       rw [← hL] at hLm
       obtain ⟨ZV, hZV⟩ : ∃ ZV : Value, ZV = stV ⟨0, false, false⟩ := ⟨_, rfl⟩
       have HZV := hide (show Value.agg #[.int .i64 0, .bool false, .bool false] = ZV from hZV.symm)
       have CSA := hide (fun (W : World) (hb : Below S.heap.size S W) => (show Calls Tryd.prog 19 #[TVu, ZV, TX, .int .i64 (i : Int)] W fun e w' => ∃ v, e = .returned v ∧ gSps L w' v ∧ Below W.heap.size W w' from by
        rw [HTXV.out, HM.out]
        exact steps_call TVu u ⟨0, false, false⟩ ZV hZV A' c' tx i S W HTUS.out HXS.out HCC.out hb L hL.symm))
       have CSB := hide (fun (W : World) (hb : Below S.heap.size S W) => (show Calls Tryd.prog 19 #[TVm, ZV, TX, .int .i64 (i : Int)] W fun e w' => ∃ v, e = .returned v ∧ gSps L w' v ∧ Below W.heap.size W w' from by
        rw [HTXV.out, HM.out]
        exact steps_call TVm _ ⟨0, false, false⟩ ZV hZV A' c' tx i S W HTMS.out HXS.out HCC.out hb L hLm))
       clear hL hLm hZV
       go_upto_region 23 with fail
       rw [← HTXV.out]
       refine wp_region_all [some 172, some 173, some 174, some 175, some 176, some 177, some 178, some 179, some 180, some 181, some 182, some 183, some 184, some 185] (gAll (ksB23 TVu TVm ZV TX i L)) (fun W => Below S.heap.size S W)
        (by kernel_rfl) (by kernel_rfl) (by rfl) (by decide) (by rfl) HBI.out.drew ?_ ?_
       ·intro j hj A x W hC hd hr
        have stay : ∀ W', Below W.heap.size W W' → Below S.heap.size S W' := fun W' hb => hC.trans (hb.mono hC.size)
        have KSS := ksB23_stab TVu TVm ZV TX i L
        have hj' : j = 0 ∨ j = 1 ∨ j = 2 ∨ j = 3 ∨ j = 4 ∨ j = 5 ∨ j = 6 ∨ j = 7 ∨ j = 8 ∨ j = 9 ∨ j = 10 ∨ j = 11 ∨ j = 12 ∨ j = 13 := by
         have hn : j < 14 := hj
         omega
        rcases hj' with rfl | rfl | rfl | rfl | rfl | rfl | rfl | rfl | rfl | rfl | rfl | rfl | rfl | rfl
        ·have e25 : A.tmps[25]?.getD undef = .pointer (some ⟨g25, 0, none⟩) := hr 25 (by decide)
         refine wpOp_step rfl (fun K' hK => ?_)
         obtain ⟨t0, t1, t2, t3, t4, t5, t6⟩ := HQ25.out W hC
         go_simp
         exact hK _ _ ⟨_, rfl, HTVu.out, fun _ _ _ h => h, hC⟩
        ·refine wpOp_step rfl (fun K' hK => ?_)
         go_simp
         exact hK _ _ ⟨_, rfl, HZV.out, fun _ _ _ h => h, hC⟩
        ·have e27 : A.tmps[27]?.getD undef = TX := hr 27 (by decide)
         refine wpOp_step rfl (fun K' hK => ?_)
         go_simp
         exact hK _ _ ⟨_, rfl, rfl, fun _ _ _ h => h, hC⟩
        ·have e28 : A.tmps[28]?.getD undef = .int .i64 (i : Int) := hr 28 (by decide)
         refine wpOp_step rfl (fun K' hK => ?_)
         go_simp
         exact hK _ _ ⟨_, rfl, rfl, fun _ _ _ h => h, hC⟩
        ·have d0 : A.tmps[172]?.getD undef = TVu := fI hd 0 172
         have d1 : A.tmps[173]?.getD undef = ZV := fI hd 1 173
         have d2 : A.tmps[174]?.getD undef = TX := fI hd 2 174
         have d3 : A.tmps[175]?.getD undef = .int .i64 (i : Int) := fI hd 3 175
         refine wpOp_step rfl (fun K' hK => ?_)
         go_simp
         go_at_call 19
         refine (CSA.out W hC).mono ?_
         rintro e W' ⟨v, rfl, hv, hb⟩
         exact hK _ _ ⟨_, rfl, hv, fun k' _ u h => gAll_below KSS hb k' u h, stay _ hb⟩
        ·have d4 : A.tmps[176]?.getD undef = x 4 := (hd 4 (by decide)).1 176 rfl
         have r4 : gSps L W (x 4) := (hd 4 (by decide)).2
         refine wpOp_step rfl (fun K' hK => ?_)
         go_simp
         go_at_call 18
         refine (plain_call (x 4) L W r4).mono ?_
         rintro e W' ⟨v, rfl, hv, hb⟩
         exact hK _ _ ⟨_, rfl, hv, fun k' _ u h => gAll_below KSS hb k' u h, stay _ hb⟩
        ·have e26 : A.tmps[26]?.getD undef = .pointer (some ⟨g26, 0, none⟩) := hr 26 (by decide)
         refine wpOp_step rfl (fun K' hK => ?_)
         obtain ⟨t0, t1, t2, t3, t4, t5, t6⟩ := HQ26.out W hC
         go_simp
         exact hK _ _ ⟨_, rfl, HTVm.out, fun _ _ _ h => h, hC⟩
        ·refine wpOp_step rfl (fun K' hK => ?_)
         go_simp
         exact hK _ _ ⟨_, rfl, HZV.out, fun _ _ _ h => h, hC⟩
        ·have e27 : A.tmps[27]?.getD undef = TX := hr 27 (by decide)
         refine wpOp_step rfl (fun K' hK => ?_)
         go_simp
         exact hK _ _ ⟨_, rfl, rfl, fun _ _ _ h => h, hC⟩
        ·have e28 : A.tmps[28]?.getD undef = .int .i64 (i : Int) := hr 28 (by decide)
         refine wpOp_step rfl (fun K' hK => ?_)
         go_simp
         exact hK _ _ ⟨_, rfl, rfl, fun _ _ _ h => h, hC⟩
        ·have d6 : A.tmps[178]?.getD undef = TVm := fI hd 6 178
         have d7 : A.tmps[179]?.getD undef = ZV := fI hd 7 179
         have d8 : A.tmps[180]?.getD undef = TX := fI hd 8 180
         have d9 : A.tmps[181]?.getD undef = .int .i64 (i : Int) := fI hd 9 181
         refine wpOp_step rfl (fun K' hK => ?_)
         go_simp
         go_at_call 19
         refine (CSB.out W hC).mono ?_
         rintro e W' ⟨v, rfl, hv, hb⟩
         exact hK _ _ ⟨_, rfl, hv, fun k' _ u h => gAll_below KSS hb k' u h, stay _ hb⟩
        ·have d10 : A.tmps[182]?.getD undef = x 10 := (hd 10 (by decide)).1 182 rfl
         have r10 : gSps L W (x 10) := (hd 10 (by decide)).2
         refine wpOp_step rfl (fun K' hK => ?_)
         go_simp
         go_at_call 18
         refine (plain_call (x 10) L W r10).mono ?_
         rintro e W' ⟨v, rfl, hv, hb⟩
         exact hK _ _ ⟨_, rfl, hv, fun k' _ u h => gAll_below KSS hb k' u h, stay _ hb⟩
        ·have d5 : A.tmps[177]?.getD undef = x 5 := (hd 5 (by decide)).1 177 rfl
         have r5 : gSps L W (x 5) := (hd 5 (by decide)).2
         have d11 : A.tmps[183]?.getD undef = x 11 := (hd 11 (by decide)).1 183 rfl
         have r11 : gSps L W (x 11) := (hd 11 (by decide)).2
         refine wpOp_step rfl (fun K' hK => ?_)
         go_simp
         go_at_call 17
         refine (same_call (x 5) (x 11) L W r5 r11).mono ?_
         rintro e W' ⟨rfl, hb⟩
         exact hK _ _ ⟨_, rfl, rfl, fun k' _ u h => gAll_below KSS hb k' u h, stay _ hb⟩
        ·have d12 : A.tmps[184]?.getD undef = .bool true := fI hd 12 184
         refine wpOp_step rfl (fun K' hK => ?_)
         go_simp
         exact hK _ _ ⟨_, rfl, rfl, fun _ _ _ h => h, hC⟩
       ·intro x W hC hR
        have h13 : x 13 = .bool false := hR 13 (by decide)
        simp only [putL, Act.put, Nat.zero_add, Nat.reduceAdd, List.setIfInBounds_toArray, List.set_cons_succ, List.set_cons_zero]
        generalize x 0 = xx0
        generalize x 1 = xx1
        generalize x 2 = xx2
        generalize x 3 = xx3
        generalize x 4 = xx4
        generalize x 5 = xx5
        generalize x 6 = xx6
        generalize x 7 = xx7
        generalize x 8 = xx8
        generalize x 9 = xx9
        generalize x 10 = xx10
        generalize x 11 = xx11
        generalize x 12 = xx12
        rw [h13]
        clear hR h13
        have HBF := hide hC
        clear hC
        rw [HTXV.out]
        go_wp2
        exact ⟨⟨i + 1, by have := HLT2.out; omega, by go_num, HBF.out⟩, by have := HLT2.out; simp [intOf]; omega⟩
      ·go_wp2_with (go_at_call 20; refine (unhide CL _).mono ?_; rintro e w4 ⟨rfl, hb4⟩; have B4 := hide (HWS.out.trans ((HBI.out.trans (hb4.mono HBI.out.size)).mono HWS.out.size)); clear hb4)
       go_ret
       exact ⟨rfl, B4.out⟩
end Go.Proofs.YtjnnohghgkjhcaaDoor
