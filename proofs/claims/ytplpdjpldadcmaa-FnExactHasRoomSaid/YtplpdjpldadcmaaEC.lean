/- What is proved here: whether the model says that a network is valid, for all arguments; only new blocks are written; whether a network is valid, has a node, and a number is a port, as the model asks; nothing is written but new blocks; the model's WantedPort, HasRoom, IsRequest and RequestsAt, for all arguments; nothing is written but new blocks; whether the program says that all numbers of a list lie in a range, and what its BufferAt returns, for all arguments; only new blocks are written; the program's number of a buffer; nothing is written but new blocks; the program's inlets and what it takes a flit to need: two functions out of a table; only new blocks are written; the flits that wait at an inlet, who owns an output, and the port that the table gives, as the program says them; only new blocks are written; what the program's GridOk, NodeCount and hasNode return, for all arguments; only new blocks are written; the port that owns an output for an inlet, and the port that the table gives its first flit, as the program says them; only new blocks are written; what the program's hasPlace and NodeAt return, for all arguments; only new blocks are written; the column and the row that the program finds for a node that exists; only new blocks are written; what the program's NextNode and its end of a channel return, for all arguments (the channel: of 64 bits); only new blocks are written; what the library's search in a list of numbers returns; only new blocks are written; the broken channels of a valid mesh are numbers of 64 bits; nothing of the program; what the program's search in a list and its test of a channel of a mesh return for numbers of 64 bits; only new blocks are written; what the program's Opposite returns, for all arguments; only new blocks are written; the buffer behind an output, and whether there is room, as the program says; only new blocks are written; the port that an inlet wants, and whether it may send its first flit to a port, as the program says; only new blocks are written; whether an inlet may send its first flit to a port, as the program says; only new blocks are written; when a network is valid, as the program asks it, part by part; nothing of the program; what the program says of the parts of a network: its lists' sizes, its buffers and its sources; only new blocks are written. -/
import Derived.Test.YtplpdjpldadcmaaEB
import Derived.Laws.Rows
import Derived.Laws.Tables
import Derived.Deep.RegionHeld3
section
namespace Go.Proofs.Ytplpdjpldadcmaa
open Go.ChangeShapes Go.WideShapes Go.ChangeAt Go.RowKit
set_option linter.unusedVariables false
set_option maxRecDepth 20000

theorem tmod_two (x : Nat) : Int.tmod (x : Int) 2 = ((x % 2 : Nat) : Int) := by
  rw [Int.tmod_eq_emod_of_nonneg (by omega)]; rfl
theorem size_no {N : Nt} {k : Nat} (hk : countG N.W N.H = (k : Int)) (h : ¬ (N.bu.length = 10 * k ∧ N.ow.length = 10 * k ∧ N.tu.length = 5 * k ∧ N.so.length = k ∧ N.ar.length = k ∧ (0 ≤ N.ti ∧ N.ti ≤ 1000000))) : sizesN N = false :=
  decide_eq_false (fun e => h (by rw [hk] at e; omega))
theorem size_yes {N : Nt} {k : Nat} (hk : countG N.W N.H = (k : Int)) (h : N.bu.length = 10 * k ∧ N.ow.length = 10 * k ∧ N.tu.length = 5 * k ∧ N.so.length = k ∧ N.ar.length = k ∧ (0 ≤ N.ti ∧ N.ti ≤ 1000000)) : sizesN N = true :=
  decide_eq_true (by rw [hk]; omega)
set_option maxHeartbeats 6400000 in
theorem specNetOk (y : Na) (N : Nt) (w : World) (h : NetIn w w.heap.size y N) (hn : NetSm N) :
    Calls Try.prog 53 #[.agg #[.int .i64 N.W, .int .i64 N.H, .slice y.br.A N.br.length y.br.c, .slice y.ta.A N.ta.length y.ta.c, .slice y.tb.A N.tb.length y.tb.c, .slice y.bu.A N.bu.length y.bu.c, .slice y.ow.A N.ow.length y.ow.c, .slice y.tu.A N.tu.length y.tu.c, .slice y.so.A N.so.length y.so.c, .slice y.ar.A N.ar.length y.ar.c, .int .i64 N.ti]] w (RetB (netOk N) w) := by
  have HI := Lib.hid h
  have HSM := Lib.hid hn
  obtain ⟨kk, hkk⟩ : ∃ kk : Nat, countG N.W N.H = (kk : Int) := ⟨(countG N.W N.H).toNat, by have := (countG_le N.W N.H).1; omega⟩
  have hk16 : kk ≤ 16 := by have := (countG_le N.W N.H).2; omega
  have HNC : Hid (∀ w, Calls Try.prog 55 #[.agg #[.int .i64 N.W, .int .i64 N.H]] w (RetI (kk : Int) none w)) := Lib.hid (fun w => by have h := specNodeCount N.W N.H w; rw [hkk] at h; exact h)
  have HSN := Lib.hid (size_no hkk)
  have HSY := Lib.hid (size_yes hkk)
  obtain ⟨b10, hb10⟩ : ∃ b, 10 * kk = b := ⟨_, rfl⟩
  obtain ⟨b5, hb5⟩ : ∃ b, 5 * kk = b := ⟨_, rfl⟩
  rw [hb10, hb5] at HSN HSY
  have e10 : wrap64 (10 * (kk : Int)) = (b10 : Int) := by rw [IntWalk.wrap64_in _ (by omega)]; omega
  have e5 : wrap64 (5 * (kk : Int)) = (b5 : Int) := by rw [IntWalk.wrap64_in _ (by omega)]; omega
  have e10b : 10 * (kk : Int) = (b10 : Int) := by omega
  have e5b : 5 * (kk : Int) = (b5 : Int) := by omega
  have HB160 := Lib.hid (show b10 ≤ 160 ∧ b5 ≤ 80 by omega)
  obtain ⟨r, hr⟩ : ∃ r, netOk N = r := ⟨_, rfl⟩
  have HR := Lib.hid hr
  rw [hr]
  have X0 := Lib.hid (nkAt_start (w := w) (y := y) (N := N))
  have HCK := Lib.hid (fun w h hP hQ => specClassesOk N.W N.H y.br.A y.ta.A y.tb.A N.br.length y.br.c N.ta.length y.ta.c N.tb.length y.tb.c N.br N.ta N.tb w h hP hQ hn.br hn.ta hn.tb)
  have HFL := Lib.hid (fun A n cap D w h hn => specFlits N.W N.H A n cap D w h hn)
  clear h hn hr hkk hb10 hb5
  go_enter Try.func53, Try.ntmps53
  go_wp2_with fail
  refine (HNC.out _).mono ?_
  rintro e w1 ⟨rfl, g1⟩
  have X1 := Lib.hid (X0.out.gb g1)
  have a0 : w1.cell? ⟨w.heap.size, 0, none⟩ = some (.int .i64 N.W) := X1.out.b.cell 0
  have a1 : w1.cell? ⟨w.heap.size, 1, none⟩ = some (.int .i64 N.H) := X1.out.b.cell 1
  have a2 : w1.cell? ⟨w.heap.size, 2, none⟩ = some (.slice y.br.A N.br.length y.br.c) := X1.out.b.cell 2
  have a3 : w1.cell? ⟨w.heap.size, 3, none⟩ = some (.slice y.ta.A N.ta.length y.ta.c) := X1.out.b.cell 3
  have a4 : w1.cell? ⟨w.heap.size, 4, none⟩ = some (.slice y.tb.A N.tb.length y.tb.c) := X1.out.b.cell 4
  clear g1
  go_wp2_with fail
  have hin1 := X1.out.in HI.out
  refine (HCK.out _ hin1.br hin1.ta hin1.tb).mono ?_
  rintro e w2 ⟨rfl, g2⟩
  have X2 := Lib.hid (X1.out.gb g2)
  clear g2 a0 a1 a2 a3 a4 hin1
  cases hc : clsOk N.W N.H N.br N.ta N.tb with
  | false =>
    have HE := Lib.hid (show false = r from (nk_cls hc).symm.trans HR.out)
    clear hc
    go_wp2_with fail
    go_ret
    exact ⟨ret_bool HE.out, X2.out.g⟩
  | true =>
    have HCO := Lib.hid hc
    clear hc
    have a5 : w2.cell? ⟨w.heap.size, 5, none⟩ = some (.slice y.bu.A N.bu.length y.bu.c) := X2.out.b.cell 5
    have a6 : w2.cell? ⟨w.heap.size, 6, none⟩ = some (.slice y.ow.A N.ow.length y.ow.c) := X2.out.b.cell 6
    have a7 : w2.cell? ⟨w.heap.size, 7, none⟩ = some (.slice y.tu.A N.tu.length y.tu.c) := X2.out.b.cell 7
    have a8 : w2.cell? ⟨w.heap.size, 8, none⟩ = some (.slice y.so.A N.so.length y.so.c) := X2.out.b.cell 8
    have a9 : w2.cell? ⟨w.heap.size, 9, none⟩ = some (.slice y.ar.A N.ar.length y.ar.c) := X2.out.b.cell 9
    have a10 : w2.cell? ⟨w.heap.size, 10, none⟩ = some (.int .i64 N.ti) := X2.out.b.cell 10
    by_cases hbu : N.bu.length = b10
    rotate_left
    · have HE := Lib.hid (show false = r from (nk_size (HSN.out (fun e => by omega))).symm.trans HR.out)
      have Hbu := Lib.hid hbu
      have pbu : ¬ (N.bu.length : Int) = (b10 : Int) := by omega
      clear hbu
      go_wp2_with fail
      go_ret
      exact ⟨ret_bool HE.out, X2.out.g⟩
    have ibu : (N.bu.length : Int) = (b10 : Int) := by omega
    have Hbu := Lib.hid hbu
    clear hbu
    by_cases how : N.ow.length = b10
    rotate_left
    · have HE := Lib.hid (show false = r from (nk_size (HSN.out (fun e => by omega))).symm.trans HR.out)
      have How := Lib.hid how
      have pow : ¬ (N.ow.length : Int) = (b10 : Int) := by omega
      clear how
      go_wp2_with fail
      go_ret
      exact ⟨ret_bool HE.out, X2.out.g⟩
    have iow : (N.ow.length : Int) = (b10 : Int) := by omega
    have How := Lib.hid how
    clear how
    by_cases htu : N.tu.length = b5
    rotate_left
    · have HE := Lib.hid (show false = r from (nk_size (HSN.out (fun e => by omega))).symm.trans HR.out)
      have Htu := Lib.hid htu
      have ptu : ¬ (N.tu.length : Int) = (b5 : Int) := by omega
      clear htu
      go_wp2_with fail
      go_ret
      exact ⟨ret_bool HE.out, X2.out.g⟩
    have itu : (N.tu.length : Int) = (b5 : Int) := by omega
    have Htu := Lib.hid htu
    clear htu
    by_cases hso : N.so.length = kk
    rotate_left
    · have HE := Lib.hid (show false = r from (nk_size (HSN.out (fun e => by omega))).symm.trans HR.out)
      have Hso := Lib.hid hso
      have pso : ¬ (N.so.length : Int) = (kk : Int) := by omega
      clear hso
      go_wp2_with fail
      go_ret
      exact ⟨ret_bool HE.out, X2.out.g⟩
    have iso : (N.so.length : Int) = (kk : Int) := by omega
    have Hso := Lib.hid hso
    clear hso
    by_cases har : N.ar.length = kk
    rotate_left
    · have HE := Lib.hid (show false = r from (nk_size (HSN.out (fun e => by omega))).symm.trans HR.out)
      have Har := Lib.hid har
      have par : ¬ (N.ar.length : Int) = (kk : Int) := by omega
      clear har
      go_wp2_with fail
      go_ret
      exact ⟨ret_bool HE.out, X2.out.g⟩
    have iar : (N.ar.length : Int) = (kk : Int) := by omega
    have Har := Lib.hid har
    clear har
    obtain ⟨tb, htb⟩ : ∃ b, decide (0 ≤ N.ti ∧ N.ti ≤ 1000000) = b := ⟨_, rfl⟩
    have HTI := Lib.hid (fun w => specInV N.ti 0 1000000 tb htb w)
    go_wp2_with fail
    refine (HTI.out _).mono ?_
    rintro e w3 ⟨rfl, rfl⟩
    clear a5 a6 a7 a8 a9 a10
    cases tb with
    | false =>
      have HE := Lib.hid (show false = r from (nk_size (HSN.out (fun e => of_decide_eq_false htb e.2.2.2.2.2))).symm.trans HR.out)
      clear htb
      go_wp2_with fail
      go_ret
      exact ⟨ret_bool HE.out, X2.out.g⟩
    | true =>
      have HSZ := Lib.hid (HSY.out ⟨Hbu.out, How.out, Htu.out, Hso.out, Har.out, of_decide_eq_true htb⟩)
      have HLN := Lib.hid (show N.bu.length = b10 ∧ N.ow.length = b10 ∧ N.tu.length = b5 ∧ N.so.length = kk from ⟨Hbu.out, How.out, Htu.out, Hso.out⟩)
      clear htb Hbu How Htu Hso Har HSN HSY HTI ibu iow itu iso iar
      go_wp2_with fail
      go_loopw [4] (fun i wr => ∃ k : Nat, i = .int .i64 (k : Int) ∧ k ≤ b10 ∧ (∀ j, j < k → bufOk N.W N.H j (N.bu.getD j []) (N.ow.getD j 0) = true) ∧ NkAt w y N wr) (fun i _ => 161 - (intOf i).toNat)
      case atStart => exact ⟨0, rfl, Nat.zero_le _, fun j hj => by omega, X2.out⟩
      case round =>
        obtain ⟨k, rfl, hk, hall, hx⟩ := hrel
        have HALL := Lib.hid hall
        have X3 := Lib.hid hx
        clear hall hx X2
        by_cases hlt : k < b10
        · have l1 : (k : Int) < (b10 : Int) := by omega
          have hin := X3.out.in HI.out
          obtain ⟨bb, off, D, A', c', hA, hbb, hD, hcell, hcp, hrec⟩ := hin.bu.at k (by have := HLN.out.1; omega)
          obtain ⟨ob, oo, hoA, _, hoc⟩ := hin.ow.at k (by have := HLN.out.2.1; omega)
          obtain ⟨ov, hov⟩ : ∃ o, N.ow.getD k 0 = o := ⟨_, rfl⟩
          rw [hov] at hoc
          have b0 : wr.cell? ⟨w.heap.size, 0, none⟩ = some (.int .i64 N.W) := X3.out.b.cell 0
          have b1 : wr.cell? ⟨w.heap.size, 1, none⟩ = some (.int .i64 N.H) := X3.out.b.cell 1
          have b2 : wr.cell? ⟨w.heap.size, 5, none⟩ = some (.slice y.bu.A N.bu.length y.bu.c) := X3.out.b.cell 5
          have b3 : wr.cell? ⟨w.heap.size, 6, none⟩ = some (.slice y.ow.A N.ow.length y.ow.c) := X3.out.b.cell 6
          rw [hA] at b2
          rw [hoA] at b3
          have HOA := Lib.hid hoA
          clear hA hoA
          have k0 : (0 : Int) ≤ (k : Int) := by omega
          have k1 : (k : Int) < (N.bu.length : Int) := by have := HLN.out.1; omega
          have k2 : (k : Int) < (N.ow.length : Int) := by have := HLN.out.2.1; omega
          have HDD := Lib.hid hD
          have HREC := Lib.hid hrec
          have HGD := Lib.hid (show N.bu.getD k [] = D from getD_of hD)
          have HOV := Lib.hid hov
          have HNB := Lib.hid (show ∀ b, bufOk N.W N.H k D ov = b → bufOk N.W N.H k (N.bu.getD k []) (N.ow.getD k 0) = b from fun b h => by rw [getD_of hD, hov]; exact h)
          have hkb : k < N.bu.length := by have := HLN.out.1; omega
          have HKB := Lib.hid hkb
          have hD9 : D.length ≤ 1000000000 := by
            have h1 := sumL_at hD
            have h2 := HSM.out.sbu
            omega
          have HD9 := Lib.hid hD9
          clear hin hD hrec hov hkb hD9 hbb hcp
          by_cases hl3 : D.length ≤ 3
          rotate_left
          · have HE := Lib.hid (show false = r from (nk_buf HKB.out (HNB.out _ (buf_no1 hl3))).symm.trans HR.out)
            have p3 : (3 : Int) < (D.length : Int) := by omega
            go_wp2_with fail
            go_ret
            exact ⟨ret_bool HE.out, X3.out.g⟩
          have p3 : ¬ (3 : Int) < (D.length : Int) := by omega
          go_wp2_with fail
          refine (HFL.out A' D.length c' D _ HREC.out HD9.out).mono ?_
          rintro e w4 ⟨rfl, g4⟩
          have X4 := Lib.hid (X3.out.gb g4)
          have REC4 := Lib.hid (HREC.out.none (Nat.le_refl _) g4)
          have c4 : w4.cell? ⟨w.heap.size, 6, none⟩ = some (.slice (some ⟨ob, oo, none⟩) N.ow.length y.ow.c) := by have h := X4.out.b.cell 6; rw [HOA.out] at h; exact h
          have d4 := g4.cell hoc (by simp)
          clear g4 b0 b1 b2 b3 hoc hcell
          cases hlo : lstOk N.W N.H D with
          | false =>
            have HE := Lib.hid (show false = r from (nk_buf HKB.out (HNB.out _ (buf_no2 hlo))).symm.trans HR.out)
            clear hlo
            go_wp2_with fail
            go_ret
            exact ⟨ret_bool HE.out, X4.out.g⟩
          | true =>
            obtain ⟨ib, hib⟩ : ∃ b, decide (-1 ≤ ov ∧ ov ≤ 4) = b := ⟨_, rfl⟩
            have HOI := Lib.hid (fun w => specInV ov (-1) 4 ib hib w)
            go_wp2_with fail
            refine (HOI.out _).mono ?_
            rintro e w5 ⟨rfl, rfl⟩
            clear c4 d4
            cases ib with
            | false =>
              have HE := Lib.hid (show false = r from (nk_buf HKB.out (HNB.out _ (buf_no3 hib))).symm.trans HR.out)
              clear hlo hib
              go_wp2_with fail
              go_ret
              exact ⟨ret_bool HE.out, X4.out.g⟩
            | true =>
              have HYB := Lib.hid (fun h => HNB.out true (buf_yes hl3 hlo hib h))
              have HN4 := Lib.hid (fun q x hx h => nk_buf HKB.out (HNB.out false (buf_no4 (q := q) (x := x) hx h)))
              have em : Int.tmod (k : Int) 2 = ((k % 2 : Nat) : Int) := tmod_two k
              obtain ⟨md, hmd⟩ : ∃ m : Nat, k % 2 = m := ⟨_, rfl⟩
              have hmd2 : md < 2 := by omega
              rw [hmd] at em HYB HN4
              have em2 : IntKind.i64.wrap (md : Int) = (md : Int) := IntWalk.i64_in _ (by omega)
              clear hlo hib hmd HOI
              go_wp2_with fail
              go_loopw [6] (fun j ws => ∃ q : Nat, j = .int .i64 (q : Int) ∧ q ≤ D.length ∧ (∀ (p : Nat) x, p < q → D[p]? = some x → x.cl = (md : Int)) ∧ NkAt w y N ws ∧ RecAt 5 fltC ws wr.heap.size A' D.length D) (fun j _ => 4 - (intOf j).toNat)
              case atStart => exact ⟨0, rfl, Nat.zero_le _, fun p x hp => by omega, X4.out, REC4.out⟩
              case round =>
                obtain ⟨q, rfl, hq, hqa, hx, hre⟩ := hrel
                have HQA := Lib.hid hqa
                have X5 := Lib.hid hx
                have REC5 := Lib.hid hre
                clear hqa hx hre
                by_cases hql : q < D.length
                · obtain ⟨fb, fo, x, rfl, _, hx, hfc⟩ := REC5.out.at q hql
                  obtain ⟨_, _, f2, _, _⟩ := flt_five hfc
                  have q0 : (0 : Int) ≤ (q : Int) := by omega
                  have q1 : (q : Int) < (D.length : Int) := by omega
                  have HX := Lib.hid hx
                  obtain ⟨cl, hcl⟩ : ∃ t, x.cl = t := ⟨_, rfl⟩
                  have HCL := Lib.hid hcl
                  rw [hcl] at f2
                  clear hx hfc hcl
                  by_cases hce : cl = (md : Int)
                  · have HCE := Lib.hid hce
                    subst hce
                    go_wp2_with fail
                    go_roundw
                    case rel => exact ⟨q + 1, by go_num, by omega, fun p z hp hz => by
                      rcases Nat.lt_or_ge p q with h1 | h1
                      · exact HQA.out p z h1 hz
                      · obtain rfl : p = q := by omega
                        rw [HX.out] at hz
                        cases hz
                        exact HCL.out, X5.out, REC5.out⟩
                    case measure => simp [intOf]; omega
                  · have HE := Lib.hid (show false = r from (HN4.out q x HX.out (by rw [HCL.out]; exact hce)).symm.trans HR.out)
                    go_wp2_with fail
                    go_ret
                    exact ⟨ret_bool HE.out, X5.out.g⟩
                · have q1 : ¬ (q : Int) < (D.length : Int) := by omega
                  have HBO := Lib.hid (HYB.out (fun p x hx => HQA.out p x (by have := (List.getElem?_eq_some_iff.1 hx).1; omega) hx))
                  go_wp2_with fail
                  go_roundw
                  case rel => exact ⟨k + 1, by go_num, by omega, fun j hj => by
                    rcases Nat.lt_or_ge j k with h1 | h1
                    · exact HALL.out j h1
                    · obtain rfl : j = k := by omega
                      exact HBO.out, X5.out⟩
                  case measure => simp [intOf]; omega
        · have l1 : ¬ (k : Int) < (b10 : Int) := by omega
          have HBUF := Lib.hid (show ∀ i, i < N.bu.length → bufOk N.W N.H i (N.bu.getD i []) (N.ow.getD i 0) = true from fun i hi => HALL.out i (by have := HLN.out.1; omega))
          go_wp2_with fail
          go_loopw [7] (fun i wr => ∃ k : Nat, i = .int .i64 (k : Int) ∧ k ≤ b5 ∧ (∀ (j : Nat) t, j < k → N.tu[j]? = some t → decide (0 ≤ t ∧ t ≤ 9) = true) ∧ NkAt w y N wr) (fun i _ => 81 - (intOf i).toNat)
          case atStart => exact ⟨0, rfl, Nat.zero_le _, fun j t hj => by omega, X3.out⟩
          case round =>
            obtain ⟨t, rfl, ht, htall, hx⟩ := hrel
            have HTA := Lib.hid htall
            have X6 := Lib.hid hx
            clear htall hx X3
            by_cases htl : t < b5
            · have l2 : (t : Int) < (b5 : Int) := by omega
              have hin := X6.out.in HI.out
              have htN : t < N.tu.length := by have := HLN.out.2.2.1; omega
              obtain ⟨ub, uo, huA, _, huc⟩ := hin.tu.at t htN
              obtain ⟨tv, htv⟩ : ∃ v, N.tu[t]? = some v := ⟨_, List.getElem?_eq_getElem htN⟩
              rw [getD_of htv] at huc
              have b7 : wr.cell? ⟨w.heap.size, 7, none⟩ = some (.slice y.tu.A N.tu.length y.tu.c) := X6.out.b.cell 7
              rw [huA] at b7
              clear huA
              have t0 : (0 : Int) ≤ (t : Int) := by omega
              have t1 : (t : Int) < (N.tu.length : Int) := by omega
              obtain ⟨ib, hib⟩ : ∃ b, decide (0 ≤ tv ∧ tv ≤ 9) = b := ⟨_, rfl⟩
              have HTI := Lib.hid (fun w => specInV tv 0 9 ib hib w)
              have HTV := Lib.hid htv
              clear hin htv
              go_wp2_with fail
              refine (HTI.out _).mono ?_
              rintro e w5 ⟨rfl, rfl⟩
              cases ib with
              | false =>
                have HE := Lib.hid (show false = r from (nk_tu HTV.out hib).symm.trans HR.out)
                clear hib
                go_wp2_with fail
                go_ret
                exact ⟨ret_bool HE.out, X6.out.g⟩
              | true =>
                have HIB := Lib.hid hib
                clear hib
                go_wp2_with fail
                go_roundw
                case rel => exact ⟨t + 1, by go_num, by omega, fun j v hj hv => by
                  rcases Nat.lt_or_ge j t with h1 | h1
                  · exact HTA.out j v h1 hv
                  · obtain rfl : j = t := by omega
                    rw [HTV.out] at hv
                    cases hv
                    exact HIB.out, X6.out⟩
                case measure => simp [intOf]; omega
            · have l2 : ¬ (t : Int) < (b5 : Int) := by omega
              have HTUR := Lib.hid (show ∀ (i : Nat) t, N.tu[i]? = some t → decide (0 ≤ t ∧ t ≤ 9) = true from fun i v hv => HTA.out i v (by have h1 := HLN.out.2.2.1; have h2 := (List.getElem?_eq_some_iff.1 hv).1; omega) hv)
              go_wp2_with fail
              go_loopw [8] (fun i wr => ∃ k : Nat, i = .int .i64 (k : Int) ∧ k ≤ kk ∧ (∀ (j : Nat) D, j < k → N.so[j]? = some D → srcOk N.W N.H D = true) ∧ NkAt w y N wr) (fun i _ => 17 - (intOf i).toNat)
              case atStart => exact ⟨0, rfl, Nat.zero_le _, fun j D hj => by omega, X6.out⟩
              case round =>
                obtain ⟨s, rfl, hs, hsall, hx⟩ := hrel
                have HSA := Lib.hid hsall
                have X7 := Lib.hid hx
                clear hsall hx X6
                by_cases hsl : s < kk
                · have l3 : (s : Int) < (kk : Int) := by omega
                  have hin := X7.out.in HI.out
                  obtain ⟨sb, so, E, A', c', hA, _, hE, hcell, _, hrec⟩ := hin.so.at s (by have := HLN.out.2.2.2; omega)
                  have b0 : wr.cell? ⟨w.heap.size, 0, none⟩ = some (.int .i64 N.W) := X7.out.b.cell 0
                  have b1 : wr.cell? ⟨w.heap.size, 1, none⟩ = some (.int .i64 N.H) := X7.out.b.cell 1
                  have b2 : wr.cell? ⟨w.heap.size, 8, none⟩ = some (.slice y.so.A N.so.length y.so.c) := X7.out.b.cell 8
                  rw [hA] at b2
                  clear hA
                  have s0 : (0 : Int) ≤ (s : Int) := by omega
                  have s1 : (s : Int) < (N.so.length : Int) := by have := HLN.out.2.2.2; omega
                  have HEE := Lib.hid hE
                  have HREC := Lib.hid hrec
                  have hE9 : E.length ≤ 1000000000 := by
                    have h1 := sumL_at hE
                    have h2 := HSM.out.sso
                    omega
                  have HE9 := Lib.hid hE9
                  clear hin hE hrec hE9
                  by_cases hl6 : E.length ≤ 60
                  rotate_left
                  · have HE := Lib.hid (show false = r from (nk_so HEE.out (src_no1 hl6)).symm.trans HR.out)
                    have p6 : (60 : Int) < (E.length : Int) := by omega
                    go_wp2_with fail
                    refine wp_region_held_drew (S := (fun w' => w'.cell? ⟨w.heap.size, 8, none⟩ = some (.slice (some ⟨sb, so, none⟩) N.so.length y.so.c) ∧ w'.cell? ⟨sb, so + s, none⟩ = some (.slice A' E.length c'))) (by kernel_rfl) (⟨b2, hcell⟩) (fun hHeld => ?_)
                    refine wpAnyH_take (i := 0) (v := ?_) rfl (by kernel_rfl) (by kernel_rfl) (by kernel_rfl) (fun _ _ _ h => h) (Or.inl ⟨by rfl, ?_⟩) (by assumption) ?_
                    rotate_left
                    · intro wq hSw; (try dsimp only at hSw); go_simp; (try with_reducible rfl)
                    simp only [List.getElem_toArray, List.getElem_cons_zero, Act.put, List.setIfInBounds_toArray, List.set_cons_zero, List.set_cons_succ]
                    refine wpAnyH_take (i := 1) (v := ?_) rfl (by kernel_rfl) (by kernel_rfl) (by kernel_rfl) (fun _ _ _ h => h) (Or.inl ⟨by rfl, ?_⟩) (by assumption) ?_
                    rotate_left
                    · intro wq hSw; (try dsimp only at hSw); go_simp; (try with_reducible rfl)
                    simp only [List.getElem_toArray, List.getElem_cons_succ, List.getElem_cons_zero, Act.put, List.setIfInBounds_toArray, List.set_cons_zero, List.set_cons_succ]
                    refine wpAnyH_take (i := 2) (v := ?_) rfl (by kernel_rfl) (by kernel_rfl) (by kernel_rfl) (fun _ _ _ h => h) (Or.inl ⟨by rfl, ?_⟩) (by assumption) ?_
                    rotate_left
                    · intro wq hSw; (try dsimp only at hSw); go_simp; (try with_reducible rfl)
                    simp only [List.getElem_toArray, List.getElem_cons_succ, List.getElem_cons_zero, Act.put, List.setIfInBounds_toArray, List.set_cons_zero, List.set_cons_succ]
                    refine wpAnyH_take (i := 3) (v := ?_) rfl (by kernel_rfl) (by kernel_rfl) (by kernel_rfl) (fun _ _ _ h => h) (Or.inl ⟨by rfl, ?_⟩) (by assumption) ?_
                    rotate_left
                    · intro wq hSw; (try dsimp only at hSw); go_simp; (try with_reducible rfl)
                    simp only [List.getElem_toArray, List.getElem_cons_succ, List.getElem_cons_zero, Act.put, List.setIfInBounds_toArray, List.set_cons_zero, List.set_cons_succ]
                    refine wpAnyH_take (i := 4) (v := ?_) rfl (by kernel_rfl) (by kernel_rfl) (by kernel_rfl) (fun _ _ _ h => h) (Or.inl ⟨by rfl, ?_⟩) (by assumption) ?_
                    rotate_left
                    · intro wq hSw; (try dsimp only at hSw); go_simp; (try with_reducible rfl)
                    simp only [List.getElem_toArray, List.getElem_cons_succ, List.getElem_cons_zero, Act.put, List.setIfInBounds_toArray, List.set_cons_zero, List.set_cons_succ]
                    refine wpAnyH_take (i := 5) (v := ?_) rfl (by kernel_rfl) (by kernel_rfl) (by kernel_rfl) (fun _ _ _ h => h) (Or.inl ⟨by rfl, ?_⟩) (by assumption) ?_
                    rotate_left
                    · intro wq hSw; (try dsimp only at hSw); go_simp; (try with_reducible rfl)
                    simp only [List.getElem_toArray, List.getElem_cons_succ, List.getElem_cons_zero, Act.put, List.setIfInBounds_toArray, List.set_cons_zero, List.set_cons_succ]
                    refine wpAnyH_take (i := 6) (v := ?_) rfl (by kernel_rfl) (by kernel_rfl) (by kernel_rfl) (fun _ _ _ h => h) (Or.inl ⟨by rfl, ?_⟩) (by assumption) ?_
                    rotate_left
                    · intro wq hSw; (try dsimp only at hSw); go_simp; (try with_reducible rfl)
                    simp only [List.getElem_toArray, List.getElem_cons_succ, List.getElem_cons_zero, Act.put, List.setIfInBounds_toArray, List.set_cons_zero, List.set_cons_succ]
                    refine wpAnyH_take (i := 7) (v := ?_) rfl (by kernel_rfl) (by kernel_rfl) (by kernel_rfl) (fun _ _ _ h => h) (Or.inl ⟨by rfl, ?_⟩) (by assumption) ?_
                    rotate_left
                    · intro wq hSw; (try dsimp only at hSw); go_simp; (try with_reducible rfl)
                    simp only [List.getElem_toArray, List.getElem_cons_succ, List.getElem_cons_zero, Act.put, List.setIfInBounds_toArray, List.set_cons_zero, List.set_cons_succ]
                    refine wpAnyH_take (i := 8) (v := undef) rfl (by kernel_rfl) (by kernel_rfl) (by kernel_rfl) (fun _ _ _ h => h) (Or.inr ⟨by rfl, rfl⟩) (by assumption) ?_
                    simp only [List.getElem_toArray, List.getElem_cons_succ, List.getElem_cons_zero, Act.put, List.setIfInBounds_toArray, List.set_cons_zero, List.set_cons_succ]
                    refine wpAnyH_take (i := 9) (v := undef) rfl (by kernel_rfl) (by kernel_rfl) (by kernel_rfl) (fun _ _ _ h => h) (Or.inr ⟨by rfl, rfl⟩) (by assumption) ?_
                    simp only [List.getElem_toArray, List.getElem_cons_succ, List.getElem_cons_zero, Act.put, List.setIfInBounds_toArray, List.set_cons_zero, List.set_cons_succ]
                    refine wpAnyH_take (i := 10) (v := undef) rfl (by kernel_rfl) (by kernel_rfl) (by kernel_rfl) (fun _ _ _ h => h) (Or.inr ⟨by rfl, rfl⟩) (by assumption) ?_
                    simp only [List.getElem_toArray, List.getElem_cons_succ, List.getElem_cons_zero, Act.put, List.setIfInBounds_toArray, List.set_cons_zero, List.set_cons_succ]
                    refine wpAnyH_take (i := 11) (v := undef) rfl (by kernel_rfl) (by kernel_rfl) (by kernel_rfl) (fun _ _ _ h => h) (Or.inr ⟨by rfl, rfl⟩) (by assumption) ?_
                    simp only [List.getElem_toArray, List.getElem_cons_succ, List.getElem_cons_zero, Act.put, List.setIfInBounds_toArray, List.set_cons_zero, List.set_cons_succ]
                    refine wpAnyH_take (i := 12) (v := undef) rfl (by kernel_rfl) (by kernel_rfl) (by kernel_rfl) (fun _ _ _ h => h) (Or.inr ⟨by rfl, rfl⟩) (by assumption) ?_
                    simp only [List.getElem_toArray, List.getElem_cons_succ, List.getElem_cons_zero, Act.put, List.setIfInBounds_toArray, List.set_cons_zero, List.set_cons_succ]
                    refine wpAnyH_take (i := 13) (v := undef) rfl (by kernel_rfl) (by kernel_rfl) (by kernel_rfl) (fun _ _ _ h => h) (Or.inr ⟨by rfl, rfl⟩) (by assumption) ?_
                    simp only [List.getElem_toArray, List.getElem_cons_succ, List.getElem_cons_zero, Act.put, List.setIfInBounds_toArray, List.set_cons_zero, List.set_cons_succ]
                    refine wpAnyH_take (i := 14) (v := undef) rfl (by kernel_rfl) (by kernel_rfl) (by kernel_rfl) (fun _ _ _ h => h) (Or.inr ⟨by rfl, rfl⟩) (by assumption) ?_
                    simp only [List.getElem_toArray, List.getElem_cons_succ, List.getElem_cons_zero, Act.put, List.setIfInBounds_toArray, List.set_cons_zero, List.set_cons_succ]
                    refine wpAnyH_take (i := 15) (v := undef) rfl (by kernel_rfl) (by kernel_rfl) (by kernel_rfl) (fun _ _ _ h => h) (Or.inr ⟨by rfl, rfl⟩) (by assumption) ?_
                    simp only [List.getElem_toArray, List.getElem_cons_succ, List.getElem_cons_zero, Act.put, List.setIfInBounds_toArray, List.set_cons_zero, List.set_cons_succ]
                    refine wpAnyH_take (i := 16) (v := undef) rfl (by kernel_rfl) (by kernel_rfl) (by kernel_rfl) (fun _ _ _ h => h) (Or.inr ⟨by rfl, rfl⟩) (by assumption) ?_
                    simp only [List.getElem_toArray, List.getElem_cons_succ, List.getElem_cons_zero, Act.put, List.setIfInBounds_toArray, List.set_cons_zero, List.set_cons_succ]
                    refine wpAnyH_take (i := 17) (v := undef) rfl (by kernel_rfl) (by kernel_rfl) (by kernel_rfl) (fun _ _ _ h => h) (Or.inr ⟨by rfl, rfl⟩) (by assumption) ?_
                    simp only [List.getElem_toArray, List.getElem_cons_succ, List.getElem_cons_zero, Act.put, List.setIfInBounds_toArray, List.set_cons_zero, List.set_cons_succ]
                    refine wpAnyH_take (i := 18) (v := ?_) rfl (by kernel_rfl) (by kernel_rfl) (by kernel_rfl) (fun _ _ _ h => h) (Or.inl ⟨by rfl, ?_⟩) (by assumption) ?_
                    rotate_left
                    · intro wq hSw; (try dsimp only at hSw); go_simp; (try with_reducible rfl)
                    simp only [List.getElem_toArray, List.getElem_cons_succ, List.getElem_cons_zero, Act.put, List.setIfInBounds_toArray, List.set_cons_zero, List.set_cons_succ]
                    refine wpAnyH_done (by kernel_rfl) ?_ _
                    clear b0 b1 b2 hcell
                    go_wp2_with fail
                    go_ret
                    exact ⟨ret_bool HE.out, gb_drew X7.out.g⟩
                  have p6 : ¬ (60 : Int) < (E.length : Int) := by omega
                  have p7 : decide ((60 : Int) < (E.length : Int)) = false := decide_eq_false p6
                  obtain ⟨lb, hlo⟩ : ∃ b, lstOk N.W N.H E = b := ⟨_, rfl⟩
                  have HFE := Lib.hid (fun w h => HFL.out A' E.length c' E w h HE9.out)
                  rw [hlo] at HFE
                  have HRD := Lib.hid (HREC.out.none (Nat.le_refl _) (gb_drew (gb_refl wr none)))
                  go_wp2_with fail
                  go_region_held3 (fun w' => w'.cell? ⟨w.heap.size, 0, none⟩ = some (.int .i64 N.W) ∧ w'.cell? ⟨w.heap.size, 1, none⟩ = some (.int .i64 N.H) ∧ w'.cell? ⟨w.heap.size, 8, none⟩ = some (.slice (some ⟨sb, so, none⟩) N.so.length y.so.c) ∧ w'.cell? ⟨sb, so + s, none⟩ = some (.slice A' E.length c'))
                    (first | exact ⟨b0, b1, b2, hcell⟩ | exact ⟨d0, d1, d2, d3⟩ | fail)
                    (first
                      | (go_at_call 76; (with_reducible refine (HFE.out _ HRD.out).mono ?_); rintro e w4 ⟨rfl, hg4⟩; have h4 := gb_drF hg4; have d0 := h4.cell b0 (by simp); have d1 := h4.cell b1 (by simp); have d2 := h4.cell b2 (by simp); have d3 := h4.cell hcell (by simp); have X8 := Lib.hid (X7.out.gb h4); clear h4 hg4)
                      | fail)
                  clear d0 d1 d2 d3 b0 b1 b2 hcell
                  cases lb with
                  | false =>
                    have HE := Lib.hid (show false = r from (nk_so HEE.out (src_is hl6 hlo)).symm.trans HR.out)
                    clear hlo
                    go_wp2_with fail
                    go_ret
                    exact ⟨ret_bool HE.out, X8.out.g⟩
                  | true =>
                    have HLO := Lib.hid (src_is hl6 hlo)
                    clear hlo
                    go_wp2_with fail
                    go_roundw
                    case rel => exact ⟨s + 1, by go_num, by omega, fun j D hj hD => by
                      rcases Nat.lt_or_ge j s with h1 | h1
                      · exact HSA.out j D h1 hD
                      · obtain rfl : j = s := by omega
                        rw [HEE.out] at hD
                        cases hD
                        exact HLO.out, X8.out⟩
                    case measure => simp [intOf]; omega
                · have l3 : ¬ (s : Int) < (kk : Int) := by omega
                  have HE := Lib.hid (show true = r from (nk_yes HCO.out HSZ.out HBUF.out HTUR.out (fun i D hD => HSA.out i D (by have h1 := HLN.out.2.2.2; have h2 := (List.getElem?_eq_some_iff.1 hD).1; omega) hD)).symm.trans HR.out)
                  go_wp2_with fail
                  go_ret
                  exact ⟨ret_bool HE.out, X7.out.g⟩
end Go.Proofs.Ytplpdjpldadcmaa
end

section
namespace Go.Proofs.Ytplpdjpldadcmaa
open Go.ChangeShapes Go.WideShapes Go.ChangeAt Go.RowKit
set_option linter.unusedVariables false
set_option maxRecDepth 20000

set_option maxHeartbeats 1600000 in
theorem specHere (y : Na) (N : Nt) (a q : Int) (w : World) (h : NetIn w w.heap.size y N) (hn : NetSm N) :
    Calls Try.prog 26 #[.agg #[.int .i64 N.W, .int .i64 N.H, .slice y.br.A N.br.length y.br.c, .slice y.ta.A N.ta.length y.ta.c, .slice y.tb.A N.tb.length y.tb.c, .slice y.bu.A N.bu.length y.bu.c, .slice y.ow.A N.ow.length y.ow.c, .slice y.tu.A N.tu.length y.tu.c, .slice y.so.A N.so.length y.so.c, .slice y.ar.A N.ar.length y.ar.c, .int .i64 N.ti], .int .i64 a, .int .i64 q] w (RetB (hereG N a q) w) := by
  have ge := gb_alloc (gb_refl w none) (.cells #[.int .i64 N.W, .int .i64 N.H, .slice y.br.A N.br.length y.br.c, .slice y.ta.A N.ta.length y.ta.c, .slice y.tb.A N.tb.length y.tb.c, .slice y.bu.A N.bu.length y.bu.c, .slice y.ow.A N.ow.length y.ow.c, .slice y.tu.A N.tu.length y.tu.c, .slice y.so.A N.so.length y.so.c, .slice y.ar.A N.ar.length y.ar.c, .int .i64 N.ti] 44)
  have HNK := Lib.hid (specNetOk y N _ ((h.none (Nat.le_refl _) ge).more ge.size) hn)
  have KB := Lib.hid (Blk.new w 44 #[.int .i64 N.W, .int .i64 N.H, .slice y.br.A N.br.length y.br.c, .slice y.ta.A N.ta.length y.ta.c, .slice y.tb.A N.tb.length y.tb.c, .slice y.bu.A N.bu.length y.bu.c, .slice y.ow.A N.ow.length y.ow.c, .slice y.tu.A N.tu.length y.tu.c, .slice y.so.A N.so.length y.so.c, .slice y.ar.A N.ar.length y.ar.c, .int .i64 N.ti])
  have GE := Lib.hid ge
  obtain ⟨b, hb⟩ : ∃ b, netOk N = b := ⟨_, rfl⟩
  obtain ⟨c, hc⟩ : ∃ c, hasG N.W N.H a = c := ⟨_, rfl⟩
  have HHA := Lib.hid (fun w' => specHasV N.W N.H a c hc w')
  have HINN := Lib.hid (fun w' => specInV q 0 4 (decide (0 ≤ q ∧ q ≤ 4)) rfl w')
  rw [hb] at HNK
  have HR := Lib.hid (show hereG N a q = (b && (c && decide (0 ≤ q ∧ q ≤ 4))) by rw [hereG, hb, hc])
  clear h hn ge hb hc
  go_enter Try.func26, Try.ntmps26
  go_wp2_with fail
  refine HNK.out.mono ?_
  rintro e w1 ⟨rfl, hg1⟩
  cases b with
  | false =>
    go_wp2_with fail
    go_ret
    exact ⟨by rw [HR.out]; rfl, gb_trans GE.out hg1⟩
  | true =>
    have b0 : w1.cell? ⟨w.heap.size, 0, none⟩ = some (.int .i64 N.W) := (KB.out.grown hg1 (by simp)).cell 0
    have b1 : w1.cell? ⟨w.heap.size, 1, none⟩ = some (.int .i64 N.H) := (KB.out.grown hg1 (by simp)).cell 1
    go_wp2_with fail
    refine (HHA.out _).mono ?_
    rintro e w2 ⟨rfl, hg2⟩
    cases c with
    | false =>
      go_wp2_with fail
      go_ret
      exact ⟨by rw [HR.out]; rfl, gb_trans GE.out (gb_trans hg1 hg2)⟩
    | true =>
      obtain ⟨d, hd⟩ : ∃ d, decide (0 ≤ q ∧ q ≤ 4) = d := ⟨_, rfl⟩
      rw [hd] at HINN HR
      clear hd
      go_wp2_with fail
      refine (HINN.out _).mono ?_
      rintro e w3 ⟨rfl, rfl⟩
      go_wp2_with fail
      go_ret
      exact ⟨by rw [HR.out]; rfl, gb_trans GE.out (gb_trans hg1 hg2)⟩
theorem here_parts {N : Nt} {a q : Int} (h : hereG N a q = true) : ∃ (k a' q' : Nat), Fit N k ∧ a = (a' : Int) ∧ q = (q' : Int) ∧ a' < k ∧ q' ≤ 4 := by
  rw [hereG, Bool.and_eq_true, Bool.and_eq_true, decide_eq_true_eq] at h
  obtain ⟨h1, h2, h3⟩ := h
  obtain ⟨k, hf⟩ := fit_of h1
  have h4 := hasG_iff.1 h2
  have h5 := hf.cnt
  exact ⟨k, a.toNat, q.toNat, hf, by omega, by omega, by omega, by omega⟩
end Go.Proofs.Ytplpdjpldadcmaa
end

section
namespace Go.Proofs.Ytplpdjpldadcmaa
open Go.ChangeShapes Go.WideShapes Go.ChangeAt Go.RowKit
set_option linter.unusedVariables false
set_option maxRecDepth 20000

set_option maxHeartbeats 1600000 in
theorem specWantedPort (y : Na) (N : Nt) (a i : Int) (w : World) (h : NetIn w w.heap.size y N) (hn : NetSm N) :
    Calls Try.prog 8 #[.agg #[.int .i64 N.W, .int .i64 N.H, .slice y.br.A N.br.length y.br.c, .slice y.ta.A N.ta.length y.ta.c, .slice y.tb.A N.tb.length y.tb.c, .slice y.bu.A N.bu.length y.bu.c, .slice y.ow.A N.ow.length y.ow.c, .slice y.tu.A N.tu.length y.tu.c, .slice y.so.A N.so.length y.so.c, .slice y.ar.A N.ar.length y.ar.c, .int .i64 N.ti], .int .i64 a, .int .i64 i] w (RetI (wantedG N a i) none w) := by
  have ge := gb_alloc (gb_refl w none) (.cells #[.int .i64 N.W, .int .i64 N.H, .slice y.br.A N.br.length y.br.c, .slice y.ta.A N.ta.length y.ta.c, .slice y.tb.A N.tb.length y.tb.c, .slice y.bu.A N.bu.length y.bu.c, .slice y.ow.A N.ow.length y.ow.c, .slice y.tu.A N.tu.length y.tu.c, .slice y.so.A N.so.length y.so.c, .slice y.ar.A N.ar.length y.ar.c, .int .i64 N.ti] 44)
  have HIN := Lib.hid ((h.none (Nat.le_refl _) ge).more ge.size)
  have HSM := Lib.hid hn
  have KB := Lib.hid (Blk.new w 44 #[.int .i64 N.W, .int .i64 N.H, .slice y.br.A N.br.length y.br.c, .slice y.ta.A N.ta.length y.ta.c, .slice y.tb.A N.tb.length y.tb.c, .slice y.bu.A N.bu.length y.bu.c, .slice y.ow.A N.ow.length y.ow.c, .slice y.tu.A N.tu.length y.tu.c, .slice y.so.A N.so.length y.so.c, .slice y.ar.A N.ar.length y.ar.c, .int .i64 N.ti])
  have GE := Lib.hid ge
  obtain ⟨b, hb⟩ : ∃ b, hereG N a 0 = b := ⟨_, rfl⟩
  have HHE := Lib.hid (specHere y N a 0 _ HIN.out hn)
  rw [hb] at HHE
  obtain ⟨c, hc⟩ : ∃ c, decide (0 ≤ i ∧ i ≤ 9) = c := ⟨_, rfl⟩
  have HINN := Lib.hid (fun w' => specInV i 0 9 c hc w')
  have hr : wantedG N a i = if (b && c) = true then wantG N a.toNat i.toNat else -1 := by rw [wantedG, hb, hc]
  have HR := Lib.hid hr
  cases b with
  | false =>
    clear h hn ge hb hc hr
    go_enter Try.func8, Try.ntmps8
    go_wp2_with fail
    refine HHE.out.mono ?_
    rintro e w1 ⟨rfl, hg1⟩
    go_wp2_with fail
    go_ret
    exact ⟨by rw [HR.out]; rfl, gb_trans GE.out hg1⟩
  | true =>
    obtain ⟨k, a', _, hf, rfl, -, ha, -⟩ := here_parts hb
    cases c with
    | false =>
      clear h hn ge hb hc hr
      go_enter Try.func8, Try.ntmps8
      go_wp2_with fail
      refine HHE.out.mono ?_
      rintro e w1 ⟨rfl, hg1⟩
      go_wp2_with fail
      refine (HINN.out _).mono ?_
      rintro e w2 ⟨rfl, rfl⟩
      go_wp2_with fail
      go_ret
      exact ⟨by rw [HR.out]; rfl, gb_trans GE.out hg1⟩
    | true =>
      have hi := of_decide_eq_true hc
      obtain ⟨i', rfl⟩ : ∃ i' : Nat, i = (i' : Int) := ⟨i.toNat, by omega⟩
      have HWA := Lib.hid (fun w' hh => specWanted y N k a' i' w' hh hf ha (by omega))
      have HR2 := Lib.hid (show wantedG N (a' : Int) (i' : Int) = wantG N a' i' by rw [hr]; rfl)
      clear h hn ge hb hc hr hf ha hi
      go_enter Try.func8, Try.ntmps8
      go_wp2_with fail
      refine HHE.out.mono ?_
      rintro e w1 ⟨rfl, hg1⟩
      go_wp2_with fail
      have K2 := KB.out.grown hg1 (by simp)
      have b0 : w1.cell? ⟨w.heap.size, 0, none⟩ = some (.int .i64 N.W) := K2.cell 0
      have b1 : w1.cell? ⟨w.heap.size, 1, none⟩ = some (.int .i64 N.H) := K2.cell 1
      have b2 : w1.cell? ⟨w.heap.size, 2, none⟩ = some (.slice y.br.A N.br.length y.br.c) := K2.cell 2
      have b3 : w1.cell? ⟨w.heap.size, 3, none⟩ = some (.slice y.ta.A N.ta.length y.ta.c) := K2.cell 3
      have b4 : w1.cell? ⟨w.heap.size, 4, none⟩ = some (.slice y.tb.A N.tb.length y.tb.c) := K2.cell 4
      have b5 : w1.cell? ⟨w.heap.size, 5, none⟩ = some (.slice y.bu.A N.bu.length y.bu.c) := K2.cell 5
      have b6 : w1.cell? ⟨w.heap.size, 6, none⟩ = some (.slice y.ow.A N.ow.length y.ow.c) := K2.cell 6
      have b7 : w1.cell? ⟨w.heap.size, 7, none⟩ = some (.slice y.tu.A N.tu.length y.tu.c) := K2.cell 7
      have b8 : w1.cell? ⟨w.heap.size, 8, none⟩ = some (.slice y.so.A N.so.length y.so.c) := K2.cell 8
      have b9 : w1.cell? ⟨w.heap.size, 9, none⟩ = some (.slice y.ar.A N.ar.length y.ar.c) := K2.cell 9
      have b10 : w1.cell? ⟨w.heap.size, 10, none⟩ = some (.int .i64 N.ti) := K2.cell 10
      have HG := Lib.hid hg1
      clear hg1 K2
      refine (HINN.out _).mono ?_
      rintro e w2 ⟨rfl, rfl⟩
      go_wp2_with fail
      refine (HWA.out _ ((HIN.out.none (Nat.le_refl _) HG.out).more HG.out.size)).mono ?_
      rintro e w3 ⟨rfl, hg3⟩
      go_wp2_with fail
      go_ret
      exact ⟨by rw [HR2.out]; rfl, gb_trans GE.out (gb_trans HG.out hg3)⟩
set_option maxHeartbeats 1600000 in
theorem specHasRoom (y : Na) (N : Nt) (a q c3 : Int) (w : World) (h : NetIn w w.heap.size y N) (hn : NetSm N) :
    Calls Try.prog 12 #[.agg #[.int .i64 N.W, .int .i64 N.H, .slice y.br.A N.br.length y.br.c, .slice y.ta.A N.ta.length y.ta.c, .slice y.tb.A N.tb.length y.tb.c, .slice y.bu.A N.bu.length y.bu.c, .slice y.ow.A N.ow.length y.ow.c, .slice y.tu.A N.tu.length y.tu.c, .slice y.so.A N.so.length y.so.c, .slice y.ar.A N.ar.length y.ar.c, .int .i64 N.ti], .int .i64 a, .int .i64 q, .int .i64 c3] w (RetB (hasRoomG N a q c3) w) := by
  have ge := gb_alloc (gb_refl w none) (.cells #[.int .i64 N.W, .int .i64 N.H, .slice y.br.A N.br.length y.br.c, .slice y.ta.A N.ta.length y.ta.c, .slice y.tb.A N.tb.length y.tb.c, .slice y.bu.A N.bu.length y.bu.c, .slice y.ow.A N.ow.length y.ow.c, .slice y.tu.A N.tu.length y.tu.c, .slice y.so.A N.so.length y.so.c, .slice y.ar.A N.ar.length y.ar.c, .int .i64 N.ti] 44)
  have HIN := Lib.hid ((h.none (Nat.le_refl _) ge).more ge.size)
  have HSM := Lib.hid hn
  have KB := Lib.hid (Blk.new w 44 #[.int .i64 N.W, .int .i64 N.H, .slice y.br.A N.br.length y.br.c, .slice y.ta.A N.ta.length y.ta.c, .slice y.tb.A N.tb.length y.tb.c, .slice y.bu.A N.bu.length y.bu.c, .slice y.ow.A N.ow.length y.ow.c, .slice y.tu.A N.tu.length y.tu.c, .slice y.so.A N.so.length y.so.c, .slice y.ar.A N.ar.length y.ar.c, .int .i64 N.ti])
  have GE := Lib.hid ge
  obtain ⟨b, hb⟩ : ∃ b, hereG N a q = b := ⟨_, rfl⟩
  have HHE := Lib.hid (specHere y N a q _ HIN.out hn)
  rw [hb] at HHE
  obtain ⟨c, hc⟩ : ∃ c, decide (0 ≤ c3 ∧ c3 ≤ 1) = c := ⟨_, rfl⟩
  have HINN := Lib.hid (fun w' => specInV c3 0 1 c hc w')
  have hr : hasRoomG N a q c3 = (b && (c && roomG N a.toNat q.toNat c3.toNat)) := by rw [hasRoomG, hb, hc]
  have HR := Lib.hid hr
  cases b with
  | false =>
    clear h hn ge hb hc hr
    go_enter Try.func12, Try.ntmps12
    go_wp2_with fail
    refine HHE.out.mono ?_
    rintro e w1 ⟨rfl, hg1⟩
    go_wp2_with fail
    go_ret
    exact ⟨by rw [HR.out]; rfl, gb_trans GE.out hg1⟩
  | true =>
    obtain ⟨k, a', q', hf, rfl, rfl, ha, hq⟩ := here_parts hb
    cases c with
    | false =>
      clear h hn ge hb hc hr
      go_enter Try.func12, Try.ntmps12
      go_wp2_with fail
      refine HHE.out.mono ?_
      rintro e w1 ⟨rfl, hg1⟩
      go_wp2_with fail
      refine (HINN.out _).mono ?_
      rintro e w2 ⟨rfl, rfl⟩
      go_wp2_with fail
      go_ret
      exact ⟨by rw [HR.out]; rfl, gb_trans GE.out hg1⟩
    | true =>
      have hi := of_decide_eq_true hc
      obtain ⟨t, rfl⟩ : ∃ t : Nat, c3 = (t : Int) := ⟨c3.toNat, by omega⟩
      have HVA := Lib.hid (fun w' hh => specRoom y N k a' q' t w' hh HSM.out hf ha hq (by omega))
      have HR2 := Lib.hid (hr.trans (show (true && (true && roomG N (a' : Int).toNat (q' : Int).toNat (t : Int).toNat)) = _ from rfl))
      clear h hn ge hb hc hr hf ha hq hi
      go_enter Try.func12, Try.ntmps12
      go_wp2_with fail
      refine HHE.out.mono ?_
      rintro e w1 ⟨rfl, hg1⟩
      go_wp2_with fail
      have K2 := KB.out.grown hg1 (by simp)
      have b0 : w1.cell? ⟨w.heap.size, 0, none⟩ = some (.int .i64 N.W) := K2.cell 0
      have b1 : w1.cell? ⟨w.heap.size, 1, none⟩ = some (.int .i64 N.H) := K2.cell 1
      have b2 : w1.cell? ⟨w.heap.size, 2, none⟩ = some (.slice y.br.A N.br.length y.br.c) := K2.cell 2
      have b3 : w1.cell? ⟨w.heap.size, 3, none⟩ = some (.slice y.ta.A N.ta.length y.ta.c) := K2.cell 3
      have b4 : w1.cell? ⟨w.heap.size, 4, none⟩ = some (.slice y.tb.A N.tb.length y.tb.c) := K2.cell 4
      have b5 : w1.cell? ⟨w.heap.size, 5, none⟩ = some (.slice y.bu.A N.bu.length y.bu.c) := K2.cell 5
      have b6 : w1.cell? ⟨w.heap.size, 6, none⟩ = some (.slice y.ow.A N.ow.length y.ow.c) := K2.cell 6
      have b7 : w1.cell? ⟨w.heap.size, 7, none⟩ = some (.slice y.tu.A N.tu.length y.tu.c) := K2.cell 7
      have b8 : w1.cell? ⟨w.heap.size, 8, none⟩ = some (.slice y.so.A N.so.length y.so.c) := K2.cell 8
      have b9 : w1.cell? ⟨w.heap.size, 9, none⟩ = some (.slice y.ar.A N.ar.length y.ar.c) := K2.cell 9
      have b10 : w1.cell? ⟨w.heap.size, 10, none⟩ = some (.int .i64 N.ti) := K2.cell 10
      have HG := Lib.hid hg1
      clear hg1 K2
      refine (HINN.out _).mono ?_
      rintro e w2 ⟨rfl, rfl⟩
      go_wp2_with fail
      refine (HVA.out _ ((HIN.out.none (Nat.le_refl _) HG.out).more HG.out.size)).mono ?_
      rintro e w3 ⟨rfl, hg3⟩
      go_wp2_with fail
      go_ret
      exact ⟨by rw [HR2.out]; rfl, gb_trans GE.out (gb_trans HG.out hg3)⟩
set_option maxHeartbeats 1600000 in
theorem specIsRequest (y : Na) (N : Nt) (a i q : Int) (w : World) (h : NetIn w w.heap.size y N) (hn : NetSm N) :
    Calls Try.prog 14 #[.agg #[.int .i64 N.W, .int .i64 N.H, .slice y.br.A N.br.length y.br.c, .slice y.ta.A N.ta.length y.ta.c, .slice y.tb.A N.tb.length y.tb.c, .slice y.bu.A N.bu.length y.bu.c, .slice y.ow.A N.ow.length y.ow.c, .slice y.tu.A N.tu.length y.tu.c, .slice y.so.A N.so.length y.so.c, .slice y.ar.A N.ar.length y.ar.c, .int .i64 N.ti], .int .i64 a, .int .i64 i, .int .i64 q] w (RetB (isReqG N a i q) w) := by
  have ge := gb_alloc (gb_refl w none) (.cells #[.int .i64 N.W, .int .i64 N.H, .slice y.br.A N.br.length y.br.c, .slice y.ta.A N.ta.length y.ta.c, .slice y.tb.A N.tb.length y.tb.c, .slice y.bu.A N.bu.length y.bu.c, .slice y.ow.A N.ow.length y.ow.c, .slice y.tu.A N.tu.length y.tu.c, .slice y.so.A N.so.length y.so.c, .slice y.ar.A N.ar.length y.ar.c, .int .i64 N.ti] 44)
  have HIN := Lib.hid ((h.none (Nat.le_refl _) ge).more ge.size)
  have HSM := Lib.hid hn
  have KB := Lib.hid (Blk.new w 44 #[.int .i64 N.W, .int .i64 N.H, .slice y.br.A N.br.length y.br.c, .slice y.ta.A N.ta.length y.ta.c, .slice y.tb.A N.tb.length y.tb.c, .slice y.bu.A N.bu.length y.bu.c, .slice y.ow.A N.ow.length y.ow.c, .slice y.tu.A N.tu.length y.tu.c, .slice y.so.A N.so.length y.so.c, .slice y.ar.A N.ar.length y.ar.c, .int .i64 N.ti])
  have GE := Lib.hid ge
  obtain ⟨b, hb⟩ : ∃ b, hereG N a q = b := ⟨_, rfl⟩
  have HHE := Lib.hid (specHere y N a q _ HIN.out hn)
  rw [hb] at HHE
  obtain ⟨c, hc⟩ : ∃ c, decide (0 ≤ i ∧ i ≤ 9) = c := ⟨_, rfl⟩
  have HINN := Lib.hid (fun w' => specInV i 0 9 c hc w')
  have hr : isReqG N a i q = (b && (c && reqG N a.toNat i.toNat q.toNat)) := by rw [isReqG, hb, hc]
  have HR := Lib.hid hr
  cases b with
  | false =>
    clear h hn ge hb hc hr
    go_enter Try.func14, Try.ntmps14
    go_wp2_with fail
    refine HHE.out.mono ?_
    rintro e w1 ⟨rfl, hg1⟩
    go_wp2_with fail
    go_ret
    exact ⟨by rw [HR.out]; rfl, gb_trans GE.out hg1⟩
  | true =>
    obtain ⟨k, a', q', hf, rfl, rfl, ha, hq⟩ := here_parts hb
    cases c with
    | false =>
      clear h hn ge hb hc hr
      go_enter Try.func14, Try.ntmps14
      go_wp2_with fail
      refine HHE.out.mono ?_
      rintro e w1 ⟨rfl, hg1⟩
      go_wp2_with fail
      refine (HINN.out _).mono ?_
      rintro e w2 ⟨rfl, rfl⟩
      go_wp2_with fail
      go_ret
      exact ⟨by rw [HR.out]; rfl, gb_trans GE.out hg1⟩
    | true =>
      have hi := of_decide_eq_true hc
      obtain ⟨t, rfl⟩ : ∃ t : Nat, i = (t : Int) := ⟨i.toNat, by omega⟩
      have HVA := Lib.hid (fun w' hh => specRequest y N k a' t q' w' hh HSM.out hf ha (by omega) hq)
      have HR2 := Lib.hid (hr.trans (show (true && (true && reqG N (a' : Int).toNat (t : Int).toNat (q' : Int).toNat)) = _ from rfl))
      clear h hn ge hb hc hr hf ha hq hi
      go_enter Try.func14, Try.ntmps14
      go_wp2_with fail
      refine HHE.out.mono ?_
      rintro e w1 ⟨rfl, hg1⟩
      go_wp2_with fail
      have K2 := KB.out.grown hg1 (by simp)
      have b0 : w1.cell? ⟨w.heap.size, 0, none⟩ = some (.int .i64 N.W) := K2.cell 0
      have b1 : w1.cell? ⟨w.heap.size, 1, none⟩ = some (.int .i64 N.H) := K2.cell 1
      have b2 : w1.cell? ⟨w.heap.size, 2, none⟩ = some (.slice y.br.A N.br.length y.br.c) := K2.cell 2
      have b3 : w1.cell? ⟨w.heap.size, 3, none⟩ = some (.slice y.ta.A N.ta.length y.ta.c) := K2.cell 3
      have b4 : w1.cell? ⟨w.heap.size, 4, none⟩ = some (.slice y.tb.A N.tb.length y.tb.c) := K2.cell 4
      have b5 : w1.cell? ⟨w.heap.size, 5, none⟩ = some (.slice y.bu.A N.bu.length y.bu.c) := K2.cell 5
      have b6 : w1.cell? ⟨w.heap.size, 6, none⟩ = some (.slice y.ow.A N.ow.length y.ow.c) := K2.cell 6
      have b7 : w1.cell? ⟨w.heap.size, 7, none⟩ = some (.slice y.tu.A N.tu.length y.tu.c) := K2.cell 7
      have b8 : w1.cell? ⟨w.heap.size, 8, none⟩ = some (.slice y.so.A N.so.length y.so.c) := K2.cell 8
      have b9 : w1.cell? ⟨w.heap.size, 9, none⟩ = some (.slice y.ar.A N.ar.length y.ar.c) := K2.cell 9
      have b10 : w1.cell? ⟨w.heap.size, 10, none⟩ = some (.int .i64 N.ti) := K2.cell 10
      have HG := Lib.hid hg1
      clear hg1 K2
      refine (HINN.out _).mono ?_
      rintro e w2 ⟨rfl, rfl⟩
      go_wp2_with fail
      refine (HVA.out _ ((HIN.out.none (Nat.le_refl _) HG.out).more HG.out.size)).mono ?_
      rintro e w3 ⟨rfl, hg3⟩
      go_wp2_with fail
      go_ret
      exact ⟨by rw [HR2.out]; rfl, gb_trans GE.out (gb_trans HG.out hg3)⟩
set_option maxHeartbeats 3200000 in
theorem specRequestsAt (y : Na) (N : Nt) (a q : Int) (w : World) (h : NetIn w w.heap.size y N) (hn : NetSm N) :
    Calls Try.prog 16 #[.agg #[.int .i64 N.W, .int .i64 N.H, .slice y.br.A N.br.length y.br.c, .slice y.ta.A N.ta.length y.ta.c, .slice y.tb.A N.tb.length y.tb.c, .slice y.bu.A N.bu.length y.bu.c, .slice y.ow.A N.ow.length y.ow.c, .slice y.tu.A N.tu.length y.tu.c, .slice y.so.A N.so.length y.so.c, .slice y.ar.A N.ar.length y.ar.c, .int .i64 N.ti], .int .i64 a, .int .i64 q] w (NewI (reqsG N a q) w) := by
  obtain ⟨i0, ii, iz0, iz1, iz2⟩ := info_parts info_int
  have ge := gb_alloc (gb_alloc (gb_refl w none) (.cells #[.int .i64 N.W, .int .i64 N.H, .slice y.br.A N.br.length y.br.c, .slice y.ta.A N.ta.length y.ta.c, .slice y.tb.A N.tb.length y.tb.c, .slice y.bu.A N.bu.length y.bu.c, .slice y.ow.A N.ow.length y.ow.c, .slice y.tu.A N.tu.length y.tu.c, .slice y.so.A N.so.length y.so.c, .slice y.ar.A N.ar.length y.ar.c, .int .i64 N.ti] 44)) (.cells #[] 3)
  have HIN := Lib.hid ((h.none (Nat.le_refl _) ge).more ge.size)
  have HSM := Lib.hid hn
  have KB := Lib.hid ((Blk.new w 44 #[.int .i64 N.W, .int .i64 N.H, .slice y.br.A N.br.length y.br.c, .slice y.ta.A N.ta.length y.ta.c, .slice y.tb.A N.tb.length y.tb.c, .slice y.bu.A N.bu.length y.bu.c, .slice y.ow.A N.ow.length y.ow.c, .slice y.tu.A N.tu.length y.tu.c, .slice y.so.A N.so.length y.so.c, .slice y.ar.A N.ar.length y.ar.c, .int .i64 N.ti]).alloc (.cells #[] 3))
  have GE := Lib.hid ge
  have SZ := Lib.hid (show (w.alloc (.cells #[.int .i64 N.W, .int .i64 N.H, .slice y.br.A N.br.length y.br.c, .slice y.ta.A N.ta.length y.ta.c, .slice y.tb.A N.tb.length y.tb.c, .slice y.bu.A N.bu.length y.bu.c, .slice y.ow.A N.ow.length y.ow.c, .slice y.tu.A N.tu.length y.tu.c, .slice y.so.A N.so.length y.so.c, .slice y.ar.A N.ar.length y.ar.c, .int .i64 N.ti] 44)).heap.size = w.heap.size + 1 from alloc_size _ _)
  obtain ⟨b, hb⟩ : ∃ b, hereG N a q = b := ⟨_, rfl⟩
  have HHE := Lib.hid (specHere y N a q _ HIN.out hn)
  rw [hb] at HHE
  have hr : reqsG N a q = if b = true then reqsTo N a.toNat q.toNat 10 else [] := by rw [reqsG, hb]
  have HR := Lib.hid hr
  have OW := Lib.hid (own_empty (L := []) rfl (w := w) (wr := w.alloc (.cells #[.int .i64 N.W, .int .i64 N.H, .slice y.br.A N.br.length y.br.c, .slice y.ta.A N.ta.length y.ta.c, .slice y.tb.A N.tb.length y.tb.c, .slice y.bu.A N.bu.length y.bu.c, .slice y.ow.A N.ow.length y.ow.c, .slice y.tu.A N.tu.length y.tu.c, .slice y.so.A N.so.length y.so.c, .slice y.ar.A N.ar.length y.ar.c, .int .i64 N.ti] 44)) (gb_below_none (gb_alloc (gb_refl w none) _) (Nat.le_refl _)))
  have h0w := Lib.hid h
  cases b with
  | false =>
    clear h hn ge hb hr
    go_enter Try.func16, Try.ntmps16
    go_wp2_with fail
    refine HHE.out.mono ?_
    rintro e w1 ⟨rfl, hg1⟩
    have O1 := Lib.hid (own_none OW.out.1 hg1)
    have B1 := Lib.hid (OW.out.2.trans (gb_below_none hg1 OW.out.2.size))
    go_wp2_with fail
    go_loopw [7, 9] (fun s v wr => s = .slice (some ⟨w.heap.size + 1, 0, none⟩) 0 0 ∧ v = .int .i64 0 ∧ wr = w1) (fun _ _ _ => 0)
    case atStart => exact ⟨rfl, rfl, rfl⟩
    case round =>
      obtain ⟨rfl, rfl, rfl⟩ := hrel
      go_wp2_with fail
      go_ret
      exact ⟨_, rfl, by rw [HR.out]; have h1 := O1.out; rw [SZ.out] at h1; exact h1, B1.out⟩
  | true =>
    obtain ⟨k, a', q', hf, rfl, rfl, ha, hq⟩ := here_parts hb
    have HRQ := Lib.hid (fun i hi w' hh => specRequest y N k a' i q' w' hh hn hf ha hi hq)
    clear h hn ge hb hr hf ha hq
    go_enter Try.func16, Try.ntmps16
    go_wp2_with fail
    refine HHE.out.mono ?_
    rintro e w1 ⟨rfl, hg1⟩
    have O1 := Lib.hid (own_none OW.out.1 hg1)
    have B1 := Lib.hid (OW.out.2.trans (gb_below_none hg1 OW.out.2.size))
    have HIN1 := Lib.hid ((HIN.out.none (Nat.le_refl _) hg1).more hg1.size)
    have K1 := Lib.hid (KB.out.grown hg1 (by simp))
    clear hg1
    go_wp2_with fail
    go_loopw [7, 9] (fun s v wr => ∃ (i : Nat) (A : Option Addr) (c : Nat), v = .int .i64 (i : Int) ∧ i ≤ 10 ∧ s = .slice A (reqsTo N a' q' i).length c ∧ wr.ownsRow w.heap.size 3 1 s (reqsTo N a' q' i).length (intsV (reqsTo N a' q' i)) ∧ NetIn wr wr.heap.size y N ∧ Blk wr w.heap.size 44 #[.int .i64 N.W, .int .i64 N.H, .slice y.br.A N.br.length y.br.c, .slice y.ta.A N.ta.length y.ta.c, .slice y.tb.A N.tb.length y.tb.c, .slice y.bu.A N.bu.length y.bu.c, .slice y.ow.A N.ow.length y.ow.c, .slice y.tu.A N.tu.length y.tu.c, .slice y.so.A N.so.length y.so.c, .slice y.ar.A N.ar.length y.ar.c, .int .i64 N.ti] ∧ Below w.heap.size w wr) (fun _ v _ => 10 - (intOf v).toNat)
    case atStart => exact ⟨0, _, _, rfl, by omega, rfl, by have h1 := O1.out; rw [SZ.out] at h1; exact h1, HIN1.out, K1.out, B1.out⟩
    case round =>
      obtain ⟨i, A, c, rfl, hi, rfl, ho, hin, kb, hb⟩ := hrel
      have HO := Lib.hid ho
      have HI := Lib.hid hin
      have HK := Lib.hid kb
      have HB := Lib.hid hb
      have hln := reqsTo_len N a' q' i
      obtain ⟨m, hm⟩ : ∃ m, (reqsTo N a' q' i).length = m := ⟨_, rfl⟩
      rw [hm] at HO hln
      rw [hm]
      by_cases hlt : i < 10
      · have g0 : (i : Int) < 10 := by omega
        have e4 : IntKind.i64.wrap ((i : Int) + 1) = ((i + 1 : Nat) : Int) := wrapN (by omega) (by omega)
        have b0 : wr.cell? ⟨w.heap.size, 0, none⟩ = some (.int .i64 N.W) := HK.out.cell 0
        have b1 : wr.cell? ⟨w.heap.size, 1, none⟩ = some (.int .i64 N.H) := HK.out.cell 1
        have b2 : wr.cell? ⟨w.heap.size, 2, none⟩ = some (.slice y.br.A N.br.length y.br.c) := HK.out.cell 2
        have b3 : wr.cell? ⟨w.heap.size, 3, none⟩ = some (.slice y.ta.A N.ta.length y.ta.c) := HK.out.cell 3
        have b4 : wr.cell? ⟨w.heap.size, 4, none⟩ = some (.slice y.tb.A N.tb.length y.tb.c) := HK.out.cell 4
        have b5 : wr.cell? ⟨w.heap.size, 5, none⟩ = some (.slice y.bu.A N.bu.length y.bu.c) := HK.out.cell 5
        have b6 : wr.cell? ⟨w.heap.size, 6, none⟩ = some (.slice y.ow.A N.ow.length y.ow.c) := HK.out.cell 6
        have b7 : wr.cell? ⟨w.heap.size, 7, none⟩ = some (.slice y.tu.A N.tu.length y.tu.c) := HK.out.cell 7
        have b8 : wr.cell? ⟨w.heap.size, 8, none⟩ = some (.slice y.so.A N.so.length y.so.c) := HK.out.cell 8
        have b9 : wr.cell? ⟨w.heap.size, 9, none⟩ = some (.slice y.ar.A N.ar.length y.ar.c) := HK.out.cell 9
        have b10 : wr.cell? ⟨w.heap.size, 10, none⟩ = some (.int .i64 N.ti) := HK.out.cell 10
        have hnx := reqsTo_next N a' q' i
        have HM := Lib.hid hm
        have HNX := Lib.hid hnx
        clear ho hin kb hb hm hnx
        go_wp2_with fail
        refine (HRQ.out i hlt _ HI.out).mono ?_
        rintro e w2 ⟨rfl, hg2⟩
        have O2 := Lib.hid (own_none HO.out hg2)
        have I2 := Lib.hid ((HI.out.none (Nat.le_refl _) hg2).more hg2.size)
        have K2 := Lib.hid (HK.out.grown hg2 (by simp))
        have B2 := Lib.hid (HB.out.trans (gb_below_none hg2 HB.out.size))
        clear hg2 b0 b1 b2 b3 b4 b5 b6 b7 b8 b9 b10
        obtain ⟨r, hrr⟩ : ∃ r, reqG N a' i q' = r := ⟨_, rfl⟩
        rw [hrr]
        rw [hrr] at HNX
        clear hrr
        cases r with
        | true =>
          have HEQ := Lib.hid (show reqsTo N a' q' (i + 1) = reqsTo N a' q' i ++ [(i : Int)] by rw [HNX.out]; simp)
          have b3' := Lib.hid (show ∀ u ∈ [Value.int .i64 (i : Int)], u.oneCell' = true by simp [Value.oneCell'])
          have b4' := Lib.hid (show m + 1 ≤ maxLen by unfold maxLen; omega)
          have SZ2 := Lib.hid (show w.heap.size ≤ (w2.alloc (.cells #[.int .i64 (i : Int)] 3)).heap.size by have := B2.out.size; rw [alloc_size]; omega)
          go_wp2_with (at_builtin; refine wpList_append_own _ rfl _ _ 24 rfl w.heap.size 3 i0 (.int .i64 0) 1 8 Try.underlying24 ii iz0 iz1 iz2 rfl (by decide) _ m _ rfl (O2.out.alloc _) ⟨w2.heap.size, 0, none⟩ 1 1 [.int .i64 (i : Int)] rfl rfl (World.news_of_block (cs := #[.int .i64 (i : Int)]) (t := 3) (fr := (0, 0)) (heap_alloc_new w2 _)) b3'.out b4'.out (by omega) SZ2.out ?_; intro v' w4 hown4 hgrow4 hnb4; obtain ⟨A4, c4, rfl, _⟩ := own_form hown4; have O4 := Lib.hid hown4; have G4 := Lib.hid hgrow4; clear hown4 hgrow4 hnb4)
          have ga := gb_alloc (gb_refl w2 none) (.cells #[.int .i64 (i : Int)] 3)
          have B4 := Lib.hid ((B2.out.alloc B2.out.size _).grown G4.out SZ2.out (fun j e => (O2.out.lt j e).1))
          have K4 := Lib.hid ((K2.out.grown ga (by simp)).grown G4.out (fun e => own_ne O2.out K2.out (by decide) e.symm))
          have HL4 := Lib.hid (show (reqsTo N a' q' (i + 1)).length = m + 1 by rw [HEQ.out, List.length_append, HM.out]; rfl)
          have O5 := Lib.hid (show w4.ownsRow w.heap.size 3 1 (.slice A4 (m + 1) c4) (m + 1) (intsV (reqsTo N a' q' (i + 1))) by rw [HEQ.out, intsV_append]; exact O4.out)
          have I4 := Lib.hid (show NetIn w4 w4.heap.size y N from by
            have h1 := ((I2.out.none (Nat.le_refl _) ga))
            have h2 : NetIn w4 w.heap.size y N := ((h0w.out.below B4.out))
            exact h2.more B4.out.size)
          go_roundw
          case rel => exact ⟨i + 1, _, _, by go_num, by omega, by rw [HL4.out], by rw [HL4.out]; exact O5.out, I4.out, K4.out, B4.out⟩
          case measure => simp [intOf]; omega
        | false =>
          have HEQ := Lib.hid (show reqsTo N a' q' (i + 1) = reqsTo N a' q' i by rw [HNX.out]; rfl)
          go_wp2_with fail
          go_roundw
          case rel => exact ⟨i + 1, _, _, by go_num, by omega, by rw [HEQ.out, HM.out], by rw [HEQ.out, HM.out]; exact O2.out, I2.out, K2.out, B2.out⟩
          case measure => simp [intOf]; omega
      · obtain rfl : i = 10 := by omega
        have HM := Lib.hid hm
        have HR2 := Lib.hid (show reqsG N (a' : Int) (q' : Int) = reqsTo N a' q' 10 by rw [HR.out]; rfl)
        clear ho hin kb hb hm
        go_wp2_with fail
        go_ret
        exact ⟨_, rfl, by rw [HR2.out, HM.out]; exact HO.out, HB.out⟩
end Go.Proofs.Ytplpdjpldadcmaa
end

section
namespace Go.Proofs.Ytplpdjpldadcmaa
open Go.ChangeShapes Go.WideShapes Go.ChangeAt Go.RowKit
set_option linter.unusedVariables false
set_option maxRecDepth 20000

def withL (lo hi : Int) (L : List Int) : Bool := L.all fun x => decide (lo ≤ x ∧ x ≤ hi)
theorem withL_no {lo hi : Int} {L : List Int} {k : Nat} {x : Int} (h : L[k]? = some x) (hf : ¬ (lo ≤ x ∧ x ≤ hi)) : withL lo hi L = false := by
  cases ha : withL lo hi L with
  | false => rfl
  | true =>
    rw [withL, List.all_eq_true] at ha
    exact absurd (of_decide_eq_true (ha x (List.mem_of_getElem? h))) hf
theorem withL_yes {lo hi : Int} {L : List Int} (h : ∀ (k : Nat) x, L[k]? = some x → lo ≤ x ∧ x ≤ hi) : withL lo hi L = true := by
  rw [withL, List.all_eq_true]
  intro x hx
  obtain ⟨k, hk, e⟩ := List.getElem_of_mem hx
  exact decide_eq_true (h k x (by rw [List.getElem?_eq_getElem hk, e]))
theorem withL_one (lo hi x : Int) : withL lo hi [x] = decide (lo ≤ x ∧ x ≤ hi) := by simp [withL]
set_option maxHeartbeats 1600000 in
theorem implWithinV (lo hi : Int) (A : Option Addr) (n cap : Nat) (L : List Int) (r : Bool) (hr : withL lo hi L = r) (w : World) (h : IntAt w w.heap.size A n L) (hn : n ≤ 1000000000) :
    Calls Try.prog 42 #[.int .i64 lo, .int .i64 hi, .slice A n cap] w (RetB r w) := by
  have HI := Lib.hid h
  have hl := h.1
  have HNO := Lib.hid (fun k x => withL_no (lo := lo) (hi := hi) (L := L) (k := k) (x := x))
  have HYES := Lib.hid (withL_yes (lo := lo) (hi := hi) (L := L))
  rw [hr] at HNO HYES
  clear h hr
  go_enter Try.func42, Try.ntmps42
  go_wp2_with fail
  go_loopw [11] (fun i wr => ∃ k : Nat, i = .int .i64 (k : Int) ∧ k ≤ n ∧ (∀ (j : Nat) x, j < k → L[j]? = some x → lo ≤ x ∧ x ≤ hi) ∧ w.grownBy wr none) (fun i _ => n - (intOf i).toNat)
  case atStart => exact ⟨0, rfl, Nat.zero_le _, fun j x hj => by omega, gb_refl _ _⟩
  case round =>
    obtain ⟨k, rfl, hk, hs, hg⟩ := hrel
    have HS := Lib.hid hs
    have HG := Lib.hid hg
    by_cases hlt : k < n
    · have hkL : k < L.length := by omega
      obtain ⟨x, hx⟩ : ∃ x, L[k]? = some x := ⟨_, List.getElem?_eq_getElem hkL⟩
      obtain ⟨b, off, rfl, _, c0⟩ := (HI.out.none (Nat.le_refl _) hg).at k hlt
      rw [List.getD_eq_getElem?_getD, hx, Option.getD_some] at c0
      have HX := Lib.hid hx
      have k0 : (0 : Int) ≤ (k : Int) := by omega
      have k1 : (k : Int) < (n : Int) := by omega
      clear hs hg hx
      by_cases h1 : x < lo
      · have HR := Lib.hid (HNO.out k x HX.out (by omega))
        go_wp2_with fail
        go_ret
        exact ⟨ret_bool HR.out.symm, HG.out⟩
      · by_cases h2 : x > hi
        · have HR := Lib.hid (HNO.out k x HX.out (by omega))
          go_wp2_with fail
          go_ret
          exact ⟨ret_bool HR.out.symm, HG.out⟩
        · have HIN := Lib.hid (show lo ≤ x ∧ x ≤ hi by omega)
          go_wp2_with fail
          go_roundw
          case rel => exact ⟨k + 1, by go_num, by omega, fun j z hj hz => by
            rcases Nat.lt_or_ge j k with h1 | h1
            · exact HS.out j z h1 hz
            · obtain rfl : j = k := by omega
              rw [HX.out] at hz
              cases hz
              exact HIN.out, HG.out⟩
          case measure => simp [intOf]; omega
    · have k1 : ¬ (k : Int) < (n : Int) := by omega
      have HR := Lib.hid (HYES.out (fun j x hx => HS.out j x (by have := (List.getElem?_eq_some_iff.1 hx).1; omega) hx))
      clear hs hg
      go_wp2_with fail
      go_ret
      exact ⟨ret_bool HR.out.symm, HG.out⟩
/-- One number. -/
theorem int_new (w : World) (x : Int) : IntAt (w.alloc (.cells #[.int .i64 x] 3)) (w.alloc (.cells #[.int .i64 x] 3)).heap.size (some ⟨w.heap.size, 0, none⟩) 1 [x] :=
  ⟨rfl, fun _ => ⟨w.heap.size, 0, rfl, by rw [alloc_size]; omega, fun k z hk => by
    cases k with
    | zero => cases hk; exact (Blk.new w 3 #[.int .i64 x]).cell 0
    | succ k => simp at hk⟩⟩
theorem implWithin1 (lo hi x : Int) (r : Bool) (hr : decide (lo ≤ x ∧ x ≤ hi) = r) (w : World) :
    Calls Try.prog 42 #[.int .i64 lo, .int .i64 hi, .slice (some ⟨w.heap.size, 0, none⟩) 1 1] (w.alloc (.cells #[.int .i64 x] 3)) (fun e w' => e = .returned (.bool r) ∧ w.grownBy w' none) :=
  (implWithinV lo hi _ 1 1 [x] r ((withL_one lo hi x).trans hr) _ (int_new w x) (by omega)).mono fun e w' ⟨h1, h2⟩ => ⟨h1, gb_trans (gb_alloc (gb_refl _ _) _) h2⟩
theorem implIsClassN (c : Int) (b : Bool) (hb : decide (0 ≤ c ∧ c ≤ 1) = b) (w : World) :
    Calls Try.prog 43 #[.int .i64 c] w fun e w' => e = .returned (.bool b) ∧ w = w' := by
  have HB := Lib.hid hb
  clear hb
  by_cases h0 : c = 0
  · have HN := Lib.hid (show true = b by rw [← HB.out]; exact (decide_eq_true (by omega)).symm)
    subst h0
    go_enter Try.func43, Try.ntmps43
    go_wp2_with fail
    go_ret
    exact ⟨ret_bool HN.out, rfl⟩
  · have HN := Lib.hid (show (c == 1) = b by rw [← HB.out]; exact Bool.eq_iff_iff.2 (by simp; omega))
    have q0 : (c == 0) = false := by simpa using h0
    go_enter Try.func43, Try.ntmps43
    go_wp2_with fail
    go_ret
    exact ⟨ret_bool (by first | exact HN.out | (rw [← HN.out]; simp)), rfl⟩

end Go.Proofs.Ytplpdjpldadcmaa
end

section
namespace Go.Proofs.Ytplpdjpldadcmaa
open Go.ChangeShapes Go.WideShapes Go.ChangeAt Go.RowKit
set_option linter.unusedVariables false
set_option maxRecDepth 20000

theorem implBufferAt (n p c : Int) (w : World) :
    Calls Try.prog 79 #[.int .i64 n, .int .i64 p, .int .i64 c] w (RetI (bufN n p c) none w) := by
  have HR := Lib.hid (fun (x lo hi : Int) (b : Bool) (hb : decide (lo ≤ x ∧ x ≤ hi) = b) w => implWithin1 lo hi x b hb w)
  have HC := Lib.hid (fun (b : Bool) (hb : decide (0 ≤ c ∧ c ≤ 1) = b) w => implIsClassN c b hb w)
  cases h1 : decide (0 ≤ n ∧ n ≤ 15) with
  | false =>
    have hr := Lib.hid (show (-1 : Int) = bufN n p c from (if_neg (fun h => of_decide_eq_false h1 h.1)).symm)
    have H1 := Lib.hid (HR.out n 0 15 false h1)
    clear h1
    go_enter Try.func79, Try.ntmps79
    go_wp2_with fail
    refine (H1.out _).mono ?_
    rintro e w1 ⟨rfl, g1⟩
    have G1 := Lib.hid g1
    clear g1
    go_wp2_with fail
    go_ret
    exact ⟨ret_int64 hr.out, G1.out⟩
  | true =>
    have hn := of_decide_eq_true h1
    have H1 := Lib.hid (HR.out n 0 15 true h1)
    cases h2 : decide (0 ≤ p ∧ p ≤ 4) with
    | false =>
      have hr := Lib.hid (show (-1 : Int) = bufN n p c from (if_neg (fun h => of_decide_eq_false h2 h.2.1)).symm)
      have H2 := Lib.hid (HR.out p 0 4 false h2)
      clear h1 h2
      go_enter Try.func79, Try.ntmps79
      go_wp2_with fail
      refine (H1.out _).mono ?_
      rintro e w1 ⟨rfl, g1⟩
      have G1 := Lib.hid g1
      clear g1
      go_wp2_with fail
      refine (H2.out _).mono ?_
      rintro e w2 ⟨rfl, g2⟩
      have G2 := Lib.hid (gb_trans G1.out g2)
      clear g2
      go_wp2_with fail
      go_ret
      exact ⟨ret_int64 hr.out, G2.out⟩
    | true =>
      have hp := of_decide_eq_true h2
      have H2 := Lib.hid (HR.out p 0 4 true h2)
      cases h3 : decide (0 ≤ c ∧ c ≤ 1) with
      | false =>
        have hr := Lib.hid (show (-1 : Int) = bufN n p c from (if_neg (fun h => of_decide_eq_false h3 h.2.2)).symm)
        have H3 := Lib.hid (HC.out false h3)
        clear h1 h2 h3
        go_enter Try.func79, Try.ntmps79
        go_wp2_with fail
        refine (H1.out _).mono ?_
        rintro e w1 ⟨rfl, g1⟩
        have G1 := Lib.hid g1
        clear g1
        go_wp2_with fail
        refine (H2.out _).mono ?_
        rintro e w2 ⟨rfl, g2⟩
        have G2 := Lib.hid (gb_trans G1.out g2)
        clear g2
        go_wp2_with fail
        refine (H3.out _).mono ?_
        rintro e w3 ⟨rfl, rfl⟩
        go_wp2_with fail
        go_ret
        exact ⟨ret_int64 hr.out, G2.out⟩
      | true =>
        have hc := of_decide_eq_true h3
        have H3 := Lib.hid (HC.out true h3)
        have hr := Lib.hid (show 10 * n + 2 * p + c = bufN n p c by rw [bufN, if_pos ⟨hn, hp, hc⟩]; omega)
        have e1 : wrap64 (10 * n) = 10 * n := IntWalk.wrap64_in _ (by omega)
        have e2 : IntKind.i64.wrap (10 * n) = 10 * n := IntWalk.i64_in _ (by omega)
        have e3 : wrap64 (2 * p) = 2 * p := IntWalk.wrap64_in _ (by omega)
        have e4 : IntKind.i64.wrap (2 * p) = 2 * p := IntWalk.i64_in _ (by omega)
        have e5 : IntKind.i64.wrap (10 * n + 2 * p) = 10 * n + 2 * p := IntWalk.i64_in _ (by omega)
        have e6 : IntKind.i64.wrap (10 * n + 2 * p + c) = 10 * n + 2 * p + c := IntWalk.i64_in _ (by omega)
        clear h1 h2 h3
        go_enter Try.func79, Try.ntmps79
        go_wp2_with fail
        refine (H1.out _).mono ?_
        rintro e w1 ⟨rfl, g1⟩
        have G1 := Lib.hid g1
        clear g1
        go_wp2_with fail
        refine (H2.out _).mono ?_
        rintro e w2 ⟨rfl, g2⟩
        have G2 := Lib.hid (gb_trans G1.out g2)
        clear g2
        go_wp2_with fail
        refine (H3.out _).mono ?_
        rintro e w3 ⟨rfl, rfl⟩
        go_wp2_with fail
        go_ret
        exact ⟨ret_int64 hr.out, G2.out⟩
end Go.Proofs.Ytplpdjpldadcmaa
end

section
namespace Go.Proofs.Ytplpdjpldadcmaa
open Go.ChangeShapes Go.WideShapes Go.ChangeAt Go.RowKit
set_option linter.unusedVariables false
set_option maxRecDepth 20000

theorem gb_rowK {w : World} {g : Nat} {old cs : Array Value} {t : TypeId} (h : Blk w g t old) : Blk (w.setRow g cs) g t cs ∧ w.grownBy (w.setRow g cs) (some g) := by
  refine ⟨setRow_heap w g old cs t (0, 0) h, rfl, rfl, rfl, ?_, fun i hi hne => ?_⟩
  · simp [World.setRow]
  · have hne' : g ≠ i := fun e => hne (by rw [e])
    simp [World.setRow, Array.getElem?_modify, hne']
theorem gb_freshK {a b c : World} {g : Nat} (h : a.grownBy b none) (k : b.grownBy c (some g)) (hg : a.heap.size ≤ g) : a.grownBy c none :=
  ⟨k.os.trans h.os, k.tape.trans h.tape, k.output.trans h.output, Nat.le_trans h.size k.size, fun i hi hne => (k.block i (Nat.lt_of_lt_of_le hi h.size) (fun e => by cases e; omega)).trans (h.block i hi hne)⟩
def wantsF (b : Bool) : Value := if b = true then .func (.func 80) #[] #[] else .func (.func 82) #[] #[]
def mayF (b : Bool) : Value := if b = true then .func (.func 81) #[] #[] else .func (.func 83) #[] #[]
def kindsC : Array Value := #[wantsF true, mayF true, wantsF false, mayF false]
theorem kinds_info : (Try.prog.info? 111).map (·.size) = some 4 := by kernel_rfl
theorem kind_info : (Try.prog.info? 94).map (·.size) = some 2 := by kernel_rfl
theorem kinds_one : kindsC.all (·.oneCell') = true := by simp [kindsC, wantsF, mayF, Value.oneCell']
theorem kind_one (b : Bool) : (#[wantsF b, mayF b] : Array Value).all (·.oneCell') = true := by cases b <;> simp [wantsF, mayF, Value.oneCell']
theorem wpList_storeK {ops : Array Oper} {rest : List Oper} {op : Oper} {a : Act} {w : World} {Q : Exit → Act → World → Prop} (hgd : op.guard = none) (ty : TypeId) (x y : Operand) (ho : op.op = .store ty x y)
    (g : Nat) (old cs : Array Value) (hi : (Try.prog.info? ty).map (·.size) = some cs.size) (hF : cs.all (·.oneCell') = true) (hx : a.eval x = .pointer (some ⟨g, 0, none⟩)) (hy : a.eval y = .agg cs) (hb : Blk w g ty old) (hl : old.size = cs.size)
    (h : ∀ w', Blk w' g ty cs → w.grownBy w' (some g) → wpList Try.prog ops Q rest (a.put op.dst undef) w') : wpList Try.prog ops Q (op :: rest) a w :=
  wpList_store_row (P := Try.prog) hgd _ x y ho g cs hx hy _ old hb hi hl hF (h _ (gb_rowK hb).1 (gb_rowK hb).2)

set_option maxHeartbeats 1600000 in
theorem implKindOf (pk tq cl : Int) (hd tl : Bool) (w : World) :
    Calls Try.prog 60 #[.agg #[.int .i64 pk, .int .i64 tq, .int .i64 cl, .bool hd, .bool tl]] w fun e w' => e = .returned (.agg #[wantsF hd, mayF hd]) ∧ w.grownBy w' none := by
  have k0 := ((Blk.new w 85 #[.int .i64 pk, .int .i64 tq, .int .i64 cl, .bool hd, .bool tl]).alloc (.cells #[.nilFunc, .nilFunc] 94)).alloc (.cells #[.nilFunc, .nilFunc, .nilFunc, .nilFunc] 111)
  have k1 := (Blk.new (w.alloc (.cells #[.int .i64 pk, .int .i64 tq, .int .i64 cl, .bool hd, .bool tl] 85)) 94 #[.nilFunc, .nilFunc]).alloc (.cells #[.nilFunc, .nilFunc, .nilFunc, .nilFunc] 111)
  have k2 := Blk.new ((w.alloc (.cells #[.int .i64 pk, .int .i64 tq, .int .i64 cl, .bool hd, .bool tl] 85)).alloc (.cells #[.nilFunc, .nilFunc] 94)) 111 #[.nilFunc, .nilFunc, .nilFunc, .nilFunc]
  simp only [alloc_size] at k1 k2
  have ge := gb_alloc (gb_alloc (gb_alloc (gb_refl w none) (.cells #[.int .i64 pk, .int .i64 tq, .int .i64 cl, .bool hd, .bool tl] 85)) (.cells #[.nilFunc, .nilFunc] 94)) (.cells #[.nilFunc, .nilFunc, .nilFunc, .nilFunc] 111)
  have K0 := Lib.hid k0
  have K1 := Lib.hid k1
  have K2 := Lib.hid k2
  have GE := Lib.hid ge
  clear k0 k1 k2 ge
  cases hd
  · go_enter Try.func60, Try.ntmps60
    go_wp2_with (first
      | (refine wpList_storeK rfl 111 (.tmp 3) (.tmp 6) rfl (w.heap.size + 1 + 1) _ kindsC kinds_info kinds_one rfl rfl K2.out rfl ?_
         intro w2 hb2 hg2
         have c3 : w2.cell? ⟨w.heap.size, 3, none⟩ = some (.bool false) := (K0.out.grown hg2 (fun e => by have := Option.some.inj e; omega)).cell 3
         have d0 : w2.cell? ⟨w.heap.size + 1 + 1, 0, none⟩ = some (wantsF true) := hb2.cell 0
         have d1 : w2.cell? ⟨w.heap.size + 1 + 1, 1, none⟩ = some (mayF true) := hb2.cell 1
         have d2 : w2.cell? ⟨w.heap.size + 1 + 1, 2, none⟩ = some (wantsF false) := hb2.cell 2
         have d3 : w2.cell? ⟨w.heap.size + 1 + 1, 3, none⟩ = some (mayF false) := hb2.cell 3
         have HB1 := Lib.hid (K1.out.grown hg2 (fun e => by have := Option.some.inj e; omega))
         have G2 := Lib.hid (gb_freshK GE.out hg2 (by omega))
         clear hb2 hg2)
      | (refine wpList_storeK rfl 94 (.tmp 2) (.tmp 12) rfl (w.heap.size + 1) _ #[wantsF false, mayF false] kind_info (kind_one false) rfl rfl HB1.out rfl ?_
         intro w3 hb3 hg3))
    exact bodyPost_ret (v := .agg #[wantsF false, mayF false]) (results_cell_row Try.results60 _ _ (w.heap.size + 1) _ _ (0, 0) _ rfl hb3 Try.underlying94 rfl kind_info) rfl ⟨rfl, gb_freshK G2.out hg3 (by omega)⟩
  · go_enter Try.func60, Try.ntmps60
    go_wp2_with (first
      | (refine wpList_storeK rfl 111 (.tmp 3) (.tmp 6) rfl (w.heap.size + 1 + 1) _ kindsC kinds_info kinds_one rfl rfl K2.out rfl ?_
         intro w2 hb2 hg2
         have c3 : w2.cell? ⟨w.heap.size, 3, none⟩ = some (.bool true) := (K0.out.grown hg2 (fun e => by have := Option.some.inj e; omega)).cell 3
         have d0 : w2.cell? ⟨w.heap.size + 1 + 1, 0, none⟩ = some (wantsF true) := hb2.cell 0
         have d1 : w2.cell? ⟨w.heap.size + 1 + 1, 1, none⟩ = some (mayF true) := hb2.cell 1
         have d2 : w2.cell? ⟨w.heap.size + 1 + 1, 2, none⟩ = some (wantsF false) := hb2.cell 2
         have d3 : w2.cell? ⟨w.heap.size + 1 + 1, 3, none⟩ = some (mayF false) := hb2.cell 3
         have HB1 := Lib.hid (K1.out.grown hg2 (fun e => by have := Option.some.inj e; omega))
         have G2 := Lib.hid (gb_freshK GE.out hg2 (by omega))
         clear hb2 hg2)
      | (refine wpList_storeK rfl 94 (.tmp 2) (.tmp 10) rfl (w.heap.size + 1) _ #[wantsF true, mayF true] kind_info (kind_one true) rfl rfl HB1.out rfl ?_
         intro w3 hb3 hg3))
    exact bodyPost_ret (v := .agg #[wantsF true, mayF true]) (results_cell_row Try.results60 _ _ (w.heap.size + 1) _ _ (0, 0) _ rfl hb3 Try.underlying94 rfl kind_info) rfl ⟨rfl, gb_freshK G2.out hg3 (by omega)⟩
theorem implInletOf (a i : Nat) (hi : i < 10) (w : World) :
    Calls Try.prog 35 #[.int .i64 (a : Int), .int .i64 (i : Int)] w fun e w' => e = .returned (.agg #[.int .i64 (a : Int), .int .i64 ((i / 2 : Nat) : Int), .int .i64 ((i % 2 : Nat) : Int)]) ∧ w.grownBy w' none := by
  have e3 : Int.tmod (i : Int) 2 = ((i % 2 : Nat) : Int) := by rw [Int.tmod_eq_emod_of_nonneg (by omega)]; omega
  obtain ⟨m, hm⟩ : ∃ m, i % 2 = m := ⟨_, rfl⟩
  rw [hm] at e3 ⊢
  clear hm
  go_enter Try.func35, Try.ntmps35
  go_wp2_with fail
  refine bodyPost_ret (v := .agg #[.int .i64 (a : Int), .int .i64 ((i / 2 : Nat) : Int), .int .i64 (m : Int)]) (by simp [results, Try.results35, go_sem]) rfl ⟨rfl, gb_alloc (gb_refl _ _) _⟩
theorem bufN_nat {a q c : Nat} (ha : a < 16) (hq : q < 5) (hc : c < 2) : bufN (a : Int) (q : Int) (c : Int) = ((10 * a + 2 * q + c : Nat) : Int) := by
  rw [bufN, if_pos ⟨⟨by omega, by omega⟩, ⟨by omega, by omega⟩, by omega, by omega⟩]
  omega
theorem implBufNat (a q c j : Nat) (hj : 10 * a + 2 * q + c = j) (ha : a < 16) (hq : q < 5) (hc : c < 2) (w : World) :
    Calls Try.prog 79 #[.int .i64 (a : Int), .int .i64 (q : Int), .int .i64 (c : Int)] w (RetI (j : Int) none w) := by
  have h := implBufferAt (a : Int) (q : Int) (c : Int) w
  rw [bufN_nat ha hq hc, hj] at h
  exact h
theorem implOutput (a p c q j : Nat) (hj : 10 * a + 2 * q + c = j) (ha : a < 16) (hq : q < 5) (hc : c < 2) (w : World) :
    Calls Try.prog 95 #[.agg #[.int .i64 (a : Int), .int .i64 (p : Int), .int .i64 (c : Int)], .int .i64 (q : Int)] w (RetI (j : Int) none w) := by
  have HB := Lib.hid (fun w' => implBufNat a q c j hj ha hq hc w')
  clear hj
  go_enter Try.func95, Try.ntmps95
  go_wp2_with fail
  refine (HB.out _).mono ?_
  rintro e w1 ⟨rfl, hg⟩
  go_wp2_with fail
  go_ret
  exact ⟨rfl, gb_trans (gb_alloc (gb_refl _ _) _) hg⟩
end Go.Proofs.Ytplpdjpldadcmaa
end

section
namespace Go.Proofs.Ytplpdjpldadcmaa
open Go.ChangeShapes Go.WideShapes Go.ChangeAt Go.RowKit
set_option linter.unusedVariables false
set_option maxRecDepth 20000

theorem gb_undr {a b : World} {row : Option Nat} (h : a.drew.grownBy b row) : a.grownBy b row := ⟨h.os, h.tape, h.output, h.size, h.block⟩
set_option maxHeartbeats 1600000 in
theorem implWaiting (y : Na) (N : Nt) (a p c j sb so n c' : Nat) (A' : Option Addr) (hj : 10 * a + 2 * p + c = j) (ha : a < 16) (hp : p < 5) (hc : c < 2) (hA : y.bu.A = some ⟨sb, so, none⟩) (hl : j < N.bu.length) (hbl : N.bu.length ≤ 1000000) (w : World) (hcell : w.cell? ⟨sb, so + j, none⟩ = some (.slice A' n c')) :
    Calls Try.prog 59 #[.agg #[.int .i64 N.W, .int .i64 N.H, .slice y.br.A N.br.length y.br.c, .slice y.ta.A N.ta.length y.ta.c, .slice y.tb.A N.tb.length y.tb.c, .slice y.bu.A N.bu.length y.bu.c, .slice y.ow.A N.ow.length y.ow.c, .slice y.tu.A N.tu.length y.tu.c, .slice y.so.A N.so.length y.so.c, .slice y.ar.A N.ar.length y.ar.c, .int .i64 N.ti], .agg #[.int .i64 (a : Int), .int .i64 (p : Int), .int .i64 (c : Int)]] w (fun e w' => e = .returned (.slice A' n c') ∧ w.grownBy w' none) := by
  have ge := gb_alloc (gb_alloc (gb_refl w none) (.cells #[.int .i64 N.W, .int .i64 N.H, .slice y.br.A N.br.length y.br.c, .slice y.ta.A N.ta.length y.ta.c, .slice y.tb.A N.tb.length y.tb.c, .slice y.bu.A N.bu.length y.bu.c, .slice y.ow.A N.ow.length y.ow.c, .slice y.tu.A N.tu.length y.tu.c, .slice y.so.A N.so.length y.so.c, .slice y.ar.A N.ar.length y.ar.c, .int .i64 N.ti] 44)) (.cells #[.int .i64 (a : Int), .int .i64 (p : Int), .int .i64 (c : Int)] 66)
  have kn := (Blk.new w 44 #[.int .i64 N.W, .int .i64 N.H, .slice y.br.A N.br.length y.br.c, .slice y.ta.A N.ta.length y.ta.c, .slice y.tb.A N.tb.length y.tb.c, .slice y.bu.A N.bu.length y.bu.c, .slice y.ow.A N.ow.length y.ow.c, .slice y.tu.A N.tu.length y.tu.c, .slice y.so.A N.so.length y.so.c, .slice y.ar.A N.ar.length y.ar.c, .int .i64 N.ti]).alloc (.cells #[.int .i64 (a : Int), .int .i64 (p : Int), .int .i64 (c : Int)] 66)
  have ki := Blk.new (w.alloc (.cells #[.int .i64 N.W, .int .i64 N.H, .slice y.br.A N.br.length y.br.c, .slice y.ta.A N.ta.length y.ta.c, .slice y.tb.A N.tb.length y.tb.c, .slice y.bu.A N.bu.length y.bu.c, .slice y.ow.A N.ow.length y.ow.c, .slice y.tu.A N.tu.length y.tu.c, .slice y.so.A N.so.length y.so.c, .slice y.ar.A N.ar.length y.ar.c, .int .i64 N.ti] 44)) 66 #[.int .i64 (a : Int), .int .i64 (p : Int), .int .i64 (c : Int)]
  simp only [alloc_size] at ki
  have hsv : ((w.alloc (.cells #[.int .i64 N.W, .int .i64 N.H, .slice y.br.A N.br.length y.br.c, .slice y.ta.A N.ta.length y.ta.c, .slice y.tb.A N.tb.length y.tb.c, .slice y.bu.A N.bu.length y.bu.c, .slice y.ow.A N.ow.length y.ow.c, .slice y.tu.A N.tu.length y.tu.c, .slice y.so.A N.so.length y.so.c, .slice y.ar.A N.ar.length y.ar.c, .int .i64 N.ti] 44)).alloc (.cells #[.int .i64 (a : Int), .int .i64 (p : Int), .int .i64 (c : Int)] 66)).heap.size = w.heap.size + 2 := by simp only [alloc_size]
  have HB := Lib.hid (fun w' => implBufNat a p c j hj ha hp hc w')
  have hv := ge.cell hcell (by simp)
  have f0 : (0 : Int) ≤ (j : Int) := by omega
  have f1 : (j : Int) < (N.bu.length : Int) := by omega
  have HA := Lib.hid hA
  clear hj ha hp hc hl hbl hcell hA
  go_enter Try.func59, Try.ntmps59
  go_wp2_with fail
  generalize ((w.alloc (.cells #[.int .i64 N.W, .int .i64 N.H, .slice y.br.A N.br.length y.br.c, .slice y.ta.A N.ta.length y.ta.c, .slice y.tb.A N.tb.length y.tb.c, .slice y.bu.A N.bu.length y.bu.c, .slice y.ow.A N.ow.length y.ow.c, .slice y.tu.A N.tu.length y.tu.c, .slice y.so.A N.so.length y.so.c, .slice y.ar.A N.ar.length y.ar.c, .int .i64 N.ti] 44)).alloc (.cells #[.int .i64 (a : Int), .int .i64 (p : Int), .int .i64 (c : Int)] 66)) = wv at *
  have a5 : wv.cell? ⟨w.heap.size, 5, none⟩ = some (.slice y.bu.A N.bu.length y.bu.c) := kn.cell 5
  have i0 : wv.cell? ⟨w.heap.size + 1, 0, none⟩ = some (.int .i64 (a : Int)) := ki.cell 0
  have i1 : wv.cell? ⟨w.heap.size + 1, 1, none⟩ = some (.int .i64 (p : Int)) := ki.cell 1
  have i2 : wv.cell? ⟨w.heap.size + 1, 2, none⟩ = some (.int .i64 (c : Int)) := ki.cell 2
  rw [HA.out] at a5
  have GE := Lib.hid ge
  clear ge kn ki hsv HA
  go_region_held3 (fun w' => w'.cell? ⟨w.heap.size, 5, none⟩ = some (.slice (some ⟨sb, so, none⟩) N.bu.length y.bu.c) ∧ w'.cell? ⟨w.heap.size + 1, 0, none⟩ = some (.int .i64 (a : Int)) ∧ w'.cell? ⟨w.heap.size + 1, 1, none⟩ = some (.int .i64 (p : Int)) ∧ w'.cell? ⟨w.heap.size + 1, 2, none⟩ = some (.int .i64 (c : Int)) ∧ w'.cell? ⟨sb, so + j, none⟩ = some (.slice A' n c'))
    (first | exact ⟨a5, i0, i1, i2, hv⟩ | exact ⟨d5, d0, d1, d2, dv⟩)
    (first
      | (go_at_call 79; (with_reducible refine (HB.out _).mono ?_); rintro e w3 ⟨rfl, hg3⟩; have g3 := gb_undr hg3; have d5 := g3.cell a5 (by simp); have d0 := g3.cell i0 (by simp); have d1 := g3.cell i1 (by simp); have d2 := g3.cell i2 (by simp); have dv := g3.cell hv (by simp); have G3 := Lib.hid g3; clear g3 hg3)
      | fail)
  all_goals
    go_wp2_with fail
    go_ret
    exact ⟨rfl, gb_trans GE.out G3.out⟩
set_option maxHeartbeats 1600000 in
theorem implIsFree (y : Na) (N : Nt) (a p c q j : Nat) (z : Int) (hj : 10 * a + 2 * q + c = j) (ha : a < 16) (hq : q < 5) (hc : c < 2) (hl : j < N.ow.length) (hz : N.ow.getD j (-2) = z) (w : World) (h : NetIn w w.heap.size y N) :
    Calls Try.prog 81 #[.agg #[.int .i64 N.W, .int .i64 N.H, .slice y.br.A N.br.length y.br.c, .slice y.ta.A N.ta.length y.ta.c, .slice y.tb.A N.tb.length y.tb.c, .slice y.bu.A N.bu.length y.bu.c, .slice y.ow.A N.ow.length y.ow.c, .slice y.tu.A N.tu.length y.tu.c, .slice y.so.A N.so.length y.so.c, .slice y.ar.A N.ar.length y.ar.c, .int .i64 N.ti], .agg #[.int .i64 (a : Int), .int .i64 (p : Int), .int .i64 (c : Int)], .int .i64 (q : Int)] w (RetB (z == -1) w) := by
  have ge := gb_alloc (gb_alloc (gb_refl w none) (.cells #[.int .i64 N.W, .int .i64 N.H, .slice y.br.A N.br.length y.br.c, .slice y.ta.A N.ta.length y.ta.c, .slice y.tb.A N.tb.length y.tb.c, .slice y.bu.A N.bu.length y.bu.c, .slice y.ow.A N.ow.length y.ow.c, .slice y.tu.A N.tu.length y.tu.c, .slice y.so.A N.so.length y.so.c, .slice y.ar.A N.ar.length y.ar.c, .int .i64 N.ti] 44)) (.cells #[.int .i64 (a : Int), .int .i64 (p : Int), .int .i64 (c : Int)] 66)
  have kn := (Blk.new w 44 #[.int .i64 N.W, .int .i64 N.H, .slice y.br.A N.br.length y.br.c, .slice y.ta.A N.ta.length y.ta.c, .slice y.tb.A N.tb.length y.tb.c, .slice y.bu.A N.bu.length y.bu.c, .slice y.ow.A N.ow.length y.ow.c, .slice y.tu.A N.tu.length y.tu.c, .slice y.so.A N.so.length y.so.c, .slice y.ar.A N.ar.length y.ar.c, .int .i64 N.ti]).alloc (.cells #[.int .i64 (a : Int), .int .i64 (p : Int), .int .i64 (c : Int)] 66)
  have ki := Blk.new (w.alloc (.cells #[.int .i64 N.W, .int .i64 N.H, .slice y.br.A N.br.length y.br.c, .slice y.ta.A N.ta.length y.ta.c, .slice y.tb.A N.tb.length y.tb.c, .slice y.bu.A N.bu.length y.bu.c, .slice y.ow.A N.ow.length y.ow.c, .slice y.tu.A N.tu.length y.tu.c, .slice y.so.A N.so.length y.so.c, .slice y.ar.A N.ar.length y.ar.c, .int .i64 N.ti] 44)) 66 #[.int .i64 (a : Int), .int .i64 (p : Int), .int .i64 (c : Int)]
  simp only [alloc_size] at ki
  have hsv : ((w.alloc (.cells #[.int .i64 N.W, .int .i64 N.H, .slice y.br.A N.br.length y.br.c, .slice y.ta.A N.ta.length y.ta.c, .slice y.tb.A N.tb.length y.tb.c, .slice y.bu.A N.bu.length y.bu.c, .slice y.ow.A N.ow.length y.ow.c, .slice y.tu.A N.tu.length y.tu.c, .slice y.so.A N.so.length y.so.c, .slice y.ar.A N.ar.length y.ar.c, .int .i64 N.ti] 44)).alloc (.cells #[.int .i64 (a : Int), .int .i64 (p : Int), .int .i64 (c : Int)] 66)).heap.size = w.heap.size + 2 := by simp only [alloc_size]
  have hin := (h.none (Nat.le_refl _) ge).more ge.size
  have HO := Lib.hid (fun w' => implOutput a p c q j hj ha hq hc w')
  have f0 : (0 : Int) ≤ (j : Int) := by omega
  have f1 : (j : Int) < (N.ow.length : Int) := by omega
  clear hj ha hq hc h
  go_enter Try.func81, Try.ntmps81
  go_wp2_with fail
  generalize ((w.alloc (.cells #[.int .i64 N.W, .int .i64 N.H, .slice y.br.A N.br.length y.br.c, .slice y.ta.A N.ta.length y.ta.c, .slice y.tb.A N.tb.length y.tb.c, .slice y.bu.A N.bu.length y.bu.c, .slice y.ow.A N.ow.length y.ow.c, .slice y.tu.A N.tu.length y.tu.c, .slice y.so.A N.so.length y.so.c, .slice y.ar.A N.ar.length y.ar.c, .int .i64 N.ti] 44)).alloc (.cells #[.int .i64 (a : Int), .int .i64 (p : Int), .int .i64 (c : Int)] 66)) = wv at *
  obtain ⟨ob, oo, hOA, _, hv⟩ := hin.ow.at j hl
  rw [getD_in (d := 0) (e := -2) hl, hz] at hv
  have a6 : wv.cell? ⟨w.heap.size, 6, none⟩ = some (.slice y.ow.A N.ow.length y.ow.c) := kn.cell 6
  have i0 : wv.cell? ⟨w.heap.size + 1, 0, none⟩ = some (.int .i64 (a : Int)) := ki.cell 0
  have i1 : wv.cell? ⟨w.heap.size + 1, 1, none⟩ = some (.int .i64 (p : Int)) := ki.cell 1
  have i2 : wv.cell? ⟨w.heap.size + 1, 2, none⟩ = some (.int .i64 (c : Int)) := ki.cell 2
  rw [hOA] at a6
  have GE := Lib.hid ge
  clear ge kn ki hsv hOA hin hl hz
  go_region_held3 (fun w' => w'.cell? ⟨w.heap.size, 6, none⟩ = some (.slice (some ⟨ob, oo, none⟩) N.ow.length y.ow.c) ∧ w'.cell? ⟨w.heap.size + 1, 0, none⟩ = some (.int .i64 (a : Int)) ∧ w'.cell? ⟨w.heap.size + 1, 1, none⟩ = some (.int .i64 (p : Int)) ∧ w'.cell? ⟨w.heap.size + 1, 2, none⟩ = some (.int .i64 (c : Int)) ∧ w'.cell? ⟨ob, oo + j, none⟩ = some (.int .i64 z))
    (first | exact ⟨a6, i0, i1, i2, hv⟩ | exact ⟨d6, d0, d1, d2, dv⟩)
    (first
      | (go_at_call 95; (with_reducible refine (HO.out _).mono ?_); rintro e w3 ⟨rfl, hg3⟩; have g3 := gb_undr hg3; have d6 := g3.cell a6 (by simp); have d0 := g3.cell i0 (by simp); have d1 := g3.cell i1 (by simp); have d2 := g3.cell i2 (by simp); have dv := g3.cell hv (by simp); have G3 := Lib.hid g3; clear g3 hg3)
      | fail)
  all_goals
    go_wp2_with fail
    go_ret
    exact ⟨rfl, gb_trans GE.out G3.out⟩
set_option maxHeartbeats 1600000 in
theorem implIsOwnedZ (y : Na) (N : Nt) (a p c q j : Nat) (z : Int) (hj : 10 * a + 2 * q + c = j) (ha : a < 16) (hq : q < 5) (hc : c < 2) (hl : j < N.ow.length) (hz : N.ow.getD j (-2) = z) (w : World) (h : NetIn w w.heap.size y N) :
    Calls Try.prog 83 #[.agg #[.int .i64 N.W, .int .i64 N.H, .slice y.br.A N.br.length y.br.c, .slice y.ta.A N.ta.length y.ta.c, .slice y.tb.A N.tb.length y.tb.c, .slice y.bu.A N.bu.length y.bu.c, .slice y.ow.A N.ow.length y.ow.c, .slice y.tu.A N.tu.length y.tu.c, .slice y.so.A N.so.length y.so.c, .slice y.ar.A N.ar.length y.ar.c, .int .i64 N.ti], .agg #[.int .i64 (a : Int), .int .i64 (p : Int), .int .i64 (c : Int)], .int .i64 (q : Int)] w (RetB (z == (p : Int)) w) := by
  have ge := gb_alloc (gb_alloc (gb_refl w none) (.cells #[.int .i64 N.W, .int .i64 N.H, .slice y.br.A N.br.length y.br.c, .slice y.ta.A N.ta.length y.ta.c, .slice y.tb.A N.tb.length y.tb.c, .slice y.bu.A N.bu.length y.bu.c, .slice y.ow.A N.ow.length y.ow.c, .slice y.tu.A N.tu.length y.tu.c, .slice y.so.A N.so.length y.so.c, .slice y.ar.A N.ar.length y.ar.c, .int .i64 N.ti] 44)) (.cells #[.int .i64 (a : Int), .int .i64 (p : Int), .int .i64 (c : Int)] 66)
  have kn := (Blk.new w 44 #[.int .i64 N.W, .int .i64 N.H, .slice y.br.A N.br.length y.br.c, .slice y.ta.A N.ta.length y.ta.c, .slice y.tb.A N.tb.length y.tb.c, .slice y.bu.A N.bu.length y.bu.c, .slice y.ow.A N.ow.length y.ow.c, .slice y.tu.A N.tu.length y.tu.c, .slice y.so.A N.so.length y.so.c, .slice y.ar.A N.ar.length y.ar.c, .int .i64 N.ti]).alloc (.cells #[.int .i64 (a : Int), .int .i64 (p : Int), .int .i64 (c : Int)] 66)
  have ki := Blk.new (w.alloc (.cells #[.int .i64 N.W, .int .i64 N.H, .slice y.br.A N.br.length y.br.c, .slice y.ta.A N.ta.length y.ta.c, .slice y.tb.A N.tb.length y.tb.c, .slice y.bu.A N.bu.length y.bu.c, .slice y.ow.A N.ow.length y.ow.c, .slice y.tu.A N.tu.length y.tu.c, .slice y.so.A N.so.length y.so.c, .slice y.ar.A N.ar.length y.ar.c, .int .i64 N.ti] 44)) 66 #[.int .i64 (a : Int), .int .i64 (p : Int), .int .i64 (c : Int)]
  simp only [alloc_size] at ki
  have hsv : ((w.alloc (.cells #[.int .i64 N.W, .int .i64 N.H, .slice y.br.A N.br.length y.br.c, .slice y.ta.A N.ta.length y.ta.c, .slice y.tb.A N.tb.length y.tb.c, .slice y.bu.A N.bu.length y.bu.c, .slice y.ow.A N.ow.length y.ow.c, .slice y.tu.A N.tu.length y.tu.c, .slice y.so.A N.so.length y.so.c, .slice y.ar.A N.ar.length y.ar.c, .int .i64 N.ti] 44)).alloc (.cells #[.int .i64 (a : Int), .int .i64 (p : Int), .int .i64 (c : Int)] 66)).heap.size = w.heap.size + 2 := by simp only [alloc_size]
  have hin := (h.none (Nat.le_refl _) ge).more ge.size
  have HO := Lib.hid (fun w' => implOutput a p c q j hj ha hq hc w')
  have f0 : (0 : Int) ≤ (j : Int) := by omega
  have f1 : (j : Int) < (N.ow.length : Int) := by omega
  clear hj ha hq hc h
  go_enter Try.func83, Try.ntmps83
  go_wp2_with fail
  generalize ((w.alloc (.cells #[.int .i64 N.W, .int .i64 N.H, .slice y.br.A N.br.length y.br.c, .slice y.ta.A N.ta.length y.ta.c, .slice y.tb.A N.tb.length y.tb.c, .slice y.bu.A N.bu.length y.bu.c, .slice y.ow.A N.ow.length y.ow.c, .slice y.tu.A N.tu.length y.tu.c, .slice y.so.A N.so.length y.so.c, .slice y.ar.A N.ar.length y.ar.c, .int .i64 N.ti] 44)).alloc (.cells #[.int .i64 (a : Int), .int .i64 (p : Int), .int .i64 (c : Int)] 66)) = wv at *
  obtain ⟨ob, oo, hOA, _, hv⟩ := hin.ow.at j hl
  rw [getD_in (d := 0) (e := -2) hl, hz] at hv
  have a6 : wv.cell? ⟨w.heap.size, 6, none⟩ = some (.slice y.ow.A N.ow.length y.ow.c) := kn.cell 6
  have i0 : wv.cell? ⟨w.heap.size + 1, 0, none⟩ = some (.int .i64 (a : Int)) := ki.cell 0
  have i1 : wv.cell? ⟨w.heap.size + 1, 1, none⟩ = some (.int .i64 (p : Int)) := ki.cell 1
  have i2 : wv.cell? ⟨w.heap.size + 1, 2, none⟩ = some (.int .i64 (c : Int)) := ki.cell 2
  rw [hOA] at a6
  have GE := Lib.hid ge
  clear ge kn ki hsv hOA hin hl hz
  go_region_held3 (fun w' => w'.cell? ⟨w.heap.size, 6, none⟩ = some (.slice (some ⟨ob, oo, none⟩) N.ow.length y.ow.c) ∧ w'.cell? ⟨w.heap.size + 1, 0, none⟩ = some (.int .i64 (a : Int)) ∧ w'.cell? ⟨w.heap.size + 1, 1, none⟩ = some (.int .i64 (p : Int)) ∧ w'.cell? ⟨w.heap.size + 1, 2, none⟩ = some (.int .i64 (c : Int)) ∧ w'.cell? ⟨ob, oo + j, none⟩ = some (.int .i64 z))
    (first | exact ⟨a6, i0, i1, i2, hv⟩ | exact ⟨d6, d0, d1, d2, dv⟩)
    (first
      | (go_at_call 95; (with_reducible refine (HO.out _).mono ?_); rintro e w3 ⟨rfl, hg3⟩; have g3 := gb_undr hg3; have d6 := g3.cell a6 (by simp); have d0 := g3.cell i0 (by simp); have d1 := g3.cell i1 (by simp); have d2 := g3.cell i2 (by simp); have dv := g3.cell hv (by simp); have G3 := Lib.hid g3; clear g3 hg3)
      | fail)
  all_goals
    go_wp2_with fail
    go_ret
    exact ⟨rfl, gb_trans GE.out G3.out⟩
end Go.Proofs.Ytplpdjpldadcmaa
end

section
namespace Go.Proofs.Ytplpdjpldadcmaa
open Go.ChangeShapes Go.WideShapes Go.ChangeAt Go.RowKit
set_option linter.unusedVariables false

theorem boxi_blk {w w1 : World} {T : TypeId} {cs : Array Value} (h : (w.alloc (.cells cs T)).grownBy w1 none) : Blk w1 w.heap.size T cs := (Blk.new w T cs).grown h (by simp)
theorem boxi_gb {w w1 : World} {o : Obj} (h : (w.alloc o).grownBy w1 none) : w.grownBy w1 none := gb_trans (gb_alloc (gb_refl _ _) _) h

theorem implGridOk (W H : Int) (w : World) :
    Calls Try.prog 90 #[.agg #[.int .i64 W, .int .i64 H]] w (RetB (okG W H) w) := by
  by_cases h1 : W ≥ 1 <;> by_cases h2 : W ≤ 4 <;> by_cases h3 : H ≥ 1 <;> by_cases h4 : H ≤ 4
  all_goals first | (exfalso; omega) | skip
  all_goals
    go_enter Try.func90, Try.ntmps90
    go_wp2_with fail
    go_ret
    exact ⟨ret_bool (by simp [okG] <;> omega), gb_alloc (gb_refl _ _) _⟩

theorem implNodeCount (W H : Int) (w : World) :
    Calls Try.prog 71 #[.agg #[.int .i64 W, .int .i64 H]] w (RetI (countG W H) none w) := by
  cases hok : okG W H with
  | true =>
    obtain ⟨hW, hH⟩ := okG_cases hok
    have hm : wrap64 (W * H) = countG W H := by
      simp only [countG, hok, if_true]
      rcases hW with rfl | rfl | rfl | rfl <;> rcases hH with rfl | rfl | rfl | rfl <;> exact IntWalk.wrap64_in _ (by omega)
    have Hm := Lib.hid hm
    clear hW hH hm
    go_enter Try.func71, Try.ntmps71
    go_wp2_with fail
    refine (implGridOk W H _).mono ?_
    rintro e w1 ⟨rfl, hg⟩
    have hb := boxi_blk hg
    have c0 : w1.cell? ⟨w.heap.size, 0, none⟩ = some (.int .i64 W) := hb.cell 0
    have c1 : w1.cell? ⟨w.heap.size, 1, none⟩ = some (.int .i64 H) := hb.cell 1
    have Hg := Lib.hid hg
    clear hg hb
    rw [hok]
    go_wp2_with fail
    go_ret
    exact ⟨ret_int64 (by rw [← Hm.out]), boxi_gb Hg.out⟩
  | false =>
    go_enter Try.func71, Try.ntmps71
    go_wp2_with fail
    refine (implGridOk W H _).mono ?_
    rintro e w1 ⟨rfl, hg⟩
    rw [hok]
    go_wp2_with fail
    go_ret
    exact ⟨ret_int64 (by simp [countG, hok]), boxi_gb hg⟩

theorem implHasNode (W H n : Int) (w : World) :
    Calls Try.prog 41 #[.agg #[.int .i64 W, .int .i64 H], .int .i64 n] w (RetB (hasG W H n) w) := by
  obtain ⟨k, hk⟩ : ∃ k, countG W H = k := ⟨_, rfl⟩
  by_cases h0 : n ≥ 0
  · by_cases h1 : n < k
    all_goals
      go_enter Try.func41, Try.ntmps41
      go_wp2_with fail
      refine (implNodeCount W H _).mono ?_
      rintro e w1 ⟨rfl, hg⟩
      rw [hk]
      go_wp2_with fail
      go_ret
      exact ⟨ret_bool (by simp [hasG, hk]; omega), boxi_gb hg⟩
  · go_enter Try.func41, Try.ntmps41
    go_wp2_with fail
    go_ret
    exact ⟨ret_bool (by simp [hasG, hk]; omega), gb_alloc (gb_refl _ _) _⟩
end Go.Proofs.Ytplpdjpldadcmaa
end

section
namespace Go.Proofs.Ytplpdjpldadcmaa
open Go.ChangeShapes Go.WideShapes Go.ChangeAt Go.RowKit
set_option linter.unusedVariables false
set_option maxRecDepth 20000

theorem implIsOwned (y : Na) (N : Nt) (k a i p c q : Nat) (hf : Fit N k) (ha : a < k) (hi : i < 10) (hp : i / 2 = p) (hc : i % 2 = c) (hq : q < 5) (w : World) (h : NetIn w w.heap.size y N) :
    Calls Try.prog 83 #[.agg #[.int .i64 N.W, .int .i64 N.H, .slice y.br.A N.br.length y.br.c, .slice y.ta.A N.ta.length y.ta.c, .slice y.tb.A N.tb.length y.tb.c, .slice y.bu.A N.bu.length y.bu.c, .slice y.ow.A N.ow.length y.ow.c, .slice y.tu.A N.tu.length y.tu.c, .slice y.so.A N.so.length y.so.c, .slice y.ar.A N.ar.length y.ar.c, .int .i64 N.ti], .agg #[.int .i64 (a : Int), .int .i64 (p : Int), .int .i64 (c : Int)], .int .i64 (q : Int)] w (RetB (ownP N a i q) w) := by
  have hk := hf.k16
  have := implIsOwnedZ y N a p c q _ _ rfl (by omega) hq (by omega) (by rw [hf.ow]; omega) rfl w h
  rw [ownP, hp, hc]
  have e : (N.ow.getD (10 * a + 2 * q + c) (-2) == (p : Int)) = decide (N.ow.getD (10 * a + 2 * q + c) (-2) = (p : Int)) := by
    exact Bool.eq_iff_iff.2 (by rw [beq_iff_eq, decide_eq_true_eq])
  rw [e] at this
  exact this
set_option maxHeartbeats 1600000 in
theorem implOwnedPort (y : Na) (N : Nt) (k a i p c : Nat) (hf : Fit N k) (ha : a < k) (hi : i < 10) (hp : i / 2 = p) (hc : i % 2 = c) (w : World) (h : NetIn w w.heap.size y N) :
    Calls Try.prog 82 #[.agg #[.int .i64 N.W, .int .i64 N.H, .slice y.br.A N.br.length y.br.c, .slice y.ta.A N.ta.length y.ta.c, .slice y.tb.A N.tb.length y.tb.c, .slice y.bu.A N.bu.length y.bu.c, .slice y.ow.A N.ow.length y.ow.c, .slice y.tu.A N.tu.length y.tu.c, .slice y.so.A N.so.length y.so.c, .slice y.ar.A N.ar.length y.ar.c, .int .i64 N.ti], .agg #[.int .i64 (a : Int), .int .i64 (p : Int), .int .i64 (c : Int)]] w (RetI (leastTo N a i 5) none w) := by
  have ge := gb_alloc (gb_alloc (gb_refl w none) (.cells #[.int .i64 N.W, .int .i64 N.H, .slice y.br.A N.br.length y.br.c, .slice y.ta.A N.ta.length y.ta.c, .slice y.tb.A N.tb.length y.tb.c, .slice y.bu.A N.bu.length y.bu.c, .slice y.ow.A N.ow.length y.ow.c, .slice y.tu.A N.tu.length y.tu.c, .slice y.so.A N.so.length y.so.c, .slice y.ar.A N.ar.length y.ar.c, .int .i64 N.ti] 44)) (.cells #[.int .i64 (a : Int), .int .i64 (p : Int), .int .i64 (c : Int)] 66)
  have kn := (Blk.new w 44 #[.int .i64 N.W, .int .i64 N.H, .slice y.br.A N.br.length y.br.c, .slice y.ta.A N.ta.length y.ta.c, .slice y.tb.A N.tb.length y.tb.c, .slice y.bu.A N.bu.length y.bu.c, .slice y.ow.A N.ow.length y.ow.c, .slice y.tu.A N.tu.length y.tu.c, .slice y.so.A N.so.length y.so.c, .slice y.ar.A N.ar.length y.ar.c, .int .i64 N.ti]).alloc (.cells #[.int .i64 (a : Int), .int .i64 (p : Int), .int .i64 (c : Int)] 66)
  have ki := Blk.new (w.alloc (.cells #[.int .i64 N.W, .int .i64 N.H, .slice y.br.A N.br.length y.br.c, .slice y.ta.A N.ta.length y.ta.c, .slice y.tb.A N.tb.length y.tb.c, .slice y.bu.A N.bu.length y.bu.c, .slice y.ow.A N.ow.length y.ow.c, .slice y.tu.A N.tu.length y.tu.c, .slice y.so.A N.so.length y.so.c, .slice y.ar.A N.ar.length y.ar.c, .int .i64 N.ti] 44)) 66 #[.int .i64 (a : Int), .int .i64 (p : Int), .int .i64 (c : Int)]
  simp only [alloc_size] at ki
  have hsv : ((w.alloc (.cells #[.int .i64 N.W, .int .i64 N.H, .slice y.br.A N.br.length y.br.c, .slice y.ta.A N.ta.length y.ta.c, .slice y.tb.A N.tb.length y.tb.c, .slice y.bu.A N.bu.length y.bu.c, .slice y.ow.A N.ow.length y.ow.c, .slice y.tu.A N.tu.length y.tu.c, .slice y.so.A N.so.length y.so.c, .slice y.ar.A N.ar.length y.ar.c, .int .i64 N.ti] 44)).alloc (.cells #[.int .i64 (a : Int), .int .i64 (p : Int), .int .i64 (c : Int)] 66)).heap.size = w.heap.size + 2 := by simp only [alloc_size]
  have hin := (h.none (Nat.le_refl _) ge).more ge.size
  have HO := Lib.hid (fun q (b : Bool) (hb : ownP N a i q = b) (hq : q < 5) w' hh => hb ▸ implIsOwned y N k a i p c q hf ha hi hp hc hq w' hh)
  clear hf ha hi hp hc h
  go_enter Try.func82, Try.ntmps82
  go_wp2_with fail
  generalize ((w.alloc (.cells #[.int .i64 N.W, .int .i64 N.H, .slice y.br.A N.br.length y.br.c, .slice y.ta.A N.ta.length y.ta.c, .slice y.tb.A N.tb.length y.tb.c, .slice y.bu.A N.bu.length y.bu.c, .slice y.ow.A N.ow.length y.ow.c, .slice y.tu.A N.tu.length y.tu.c, .slice y.so.A N.so.length y.so.c, .slice y.ar.A N.ar.length y.ar.c, .int .i64 N.ti] 44)).alloc (.cells #[.int .i64 (a : Int), .int .i64 (p : Int), .int .i64 (c : Int)] 66)) = wv at *
  have KN := Lib.hid kn
  have KI := Lib.hid ki
  have HIN := Lib.hid hin
  have GE := Lib.hid ge
  clear ge kn ki hsv hin
  go_loopw [6] (fun v wr => ∃ q : Nat, v = .int .i64 (q : Int) ∧ q ≤ 5 ∧ (∀ r, r < q → ownP N a i r = false) ∧ wv.grownBy wr none) (fun v _ => 5 - (intOf v).toNat)
  case atStart => exact ⟨0, rfl, by omega, fun r hr => by omega, gb_refl _ _⟩
  case round =>
    obtain ⟨q, rfl, hq, hall, hg⟩ := hrel
    have HALL := Lib.hid hall
    have G := Lib.hid hg
    clear hall
    by_cases hlt : q < 5
    · have g0 : (q : Int) < 5 := by omega
      obtain ⟨b, hb⟩ : ∃ b, ownP N a i q = b := ⟨_, rfl⟩
      have HB := Lib.hid hb
      have HOQ := Lib.hid (HO.out q b hb hlt)
      have K1 := KN.out.grown hg (by simp)
      have K2 := KI.out.grown hg (by simp)
      have b0 : wr.cell? ⟨w.heap.size, 0, none⟩ = some (.int .i64 N.W) := K1.cell 0
      have b1 : wr.cell? ⟨w.heap.size, 1, none⟩ = some (.int .i64 N.H) := K1.cell 1
      have b2 : wr.cell? ⟨w.heap.size, 2, none⟩ = some (.slice y.br.A N.br.length y.br.c) := K1.cell 2
      have b3 : wr.cell? ⟨w.heap.size, 3, none⟩ = some (.slice y.ta.A N.ta.length y.ta.c) := K1.cell 3
      have b4 : wr.cell? ⟨w.heap.size, 4, none⟩ = some (.slice y.tb.A N.tb.length y.tb.c) := K1.cell 4
      have b5 : wr.cell? ⟨w.heap.size, 5, none⟩ = some (.slice y.bu.A N.bu.length y.bu.c) := K1.cell 5
      have b6 : wr.cell? ⟨w.heap.size, 6, none⟩ = some (.slice y.ow.A N.ow.length y.ow.c) := K1.cell 6
      have b7 : wr.cell? ⟨w.heap.size, 7, none⟩ = some (.slice y.tu.A N.tu.length y.tu.c) := K1.cell 7
      have b8 : wr.cell? ⟨w.heap.size, 8, none⟩ = some (.slice y.so.A N.so.length y.so.c) := K1.cell 8
      have b9 : wr.cell? ⟨w.heap.size, 9, none⟩ = some (.slice y.ar.A N.ar.length y.ar.c) := K1.cell 9
      have b10 : wr.cell? ⟨w.heap.size, 10, none⟩ = some (.int .i64 N.ti) := K1.cell 10
      have i0 : wr.cell? ⟨w.heap.size + 1, 0, none⟩ = some (.int .i64 (a : Int)) := K2.cell 0
      have i1 : wr.cell? ⟨w.heap.size + 1, 1, none⟩ = some (.int .i64 (p : Int)) := K2.cell 1
      have i2 : wr.cell? ⟨w.heap.size + 1, 2, none⟩ = some (.int .i64 (c : Int)) := K2.cell 2
      have HINR := Lib.hid ((HIN.out.none (Nat.le_refl _) hg).more hg.size)
      clear hg hb K1 K2
      go_wp2_with fail
      refine (HOQ.out _ HINR.out).mono ?_
      rintro e w3 ⟨rfl, hg3⟩
      have G3 := Lib.hid (gb_trans G.out hg3)
      clear hg3 b0 b1 b2 b3 b4 b5 b6 b7 b8 b9 b10 i0 i1 i2
      have g4 : IntKind.i64.wrap ((q : Int) + 1) = ((q + 1 : Nat) : Int) := IntWalk.i64_in _ (by omega)
      cases b with
      | true =>
        have HR := Lib.hid (leastTo_yes HALL.out HB.out (by omega : q < 5))
        go_wp2_with fail
        go_ret
        exact ⟨by rw [HR.out]; rfl, gb_trans GE.out G3.out⟩
      | false =>
        go_wp2_with fail
        go_roundw
        case rel => exact ⟨q + 1, by go_num, by omega, fun r hr => by
          rcases Nat.lt_or_ge r q with h1 | h1
          · exact HALL.out r h1
          · obtain rfl : r = q := by omega
            exact HB.out, G3.out⟩
        case measure => simp [intOf]; omega
    · obtain rfl : q = 5 := by omega
      have HR := Lib.hid (leastTo_no HALL.out)
      clear hg
      go_wp2_with fail
      go_ret
      exact ⟨by rw [HR.out]; rfl, gb_trans GE.out G.out⟩
theorem implNCk (W H k : Int) (h : countG W H = k) (w : World) :
    Calls Try.prog 71 #[.agg #[.int .i64 W, .int .i64 H]] w (RetI k none w) := h ▸ implNodeCount W H w
set_option maxHeartbeats 6400000 in
theorem implTablePort (y : Na) (N : Nt) (k a i p c : Nat) (x : Flt) (tl : List Flt) (hf : Fit N k) (ha : a < k) (hi : i < 10) (hp : i / 2 = p) (hc : i % 2 = c) (hx : bufA N (10 * a + i) = x :: tl) (w : World) (h : NetIn w w.heap.size y N) :
    Calls Try.prog 80 #[.agg #[.int .i64 N.W, .int .i64 N.H, .slice y.br.A N.br.length y.br.c, .slice y.ta.A N.ta.length y.ta.c, .slice y.tb.A N.tb.length y.tb.c, .slice y.bu.A N.bu.length y.bu.c, .slice y.ow.A N.ow.length y.ow.c, .slice y.tu.A N.tu.length y.tu.c, .slice y.so.A N.so.length y.so.c, .slice y.ar.A N.ar.length y.ar.c, .int .i64 N.ti], .agg #[.int .i64 (a : Int), .int .i64 (p : Int), .int .i64 (c : Int)]] w (RetI ((tabC N (i % 2)).getD (a * (countG N.W N.H).toNat + x.to.toNat) 0) none w) := by
  have hk16 := hf.k16
  have hkk : k * k ≤ 256 := Nat.mul_le_mul hk16 hk16
  have hjl : 10 * a + i < N.bu.length := by rw [hf.bu]; omega
  have hbl : N.bu.length ≤ 1000000 := by rw [hf.bu]; omega
  obtain ⟨sb, so, A', c', hA, hsb, hcell, hrd, hDj⟩ := buf_at h (10 * a + i) hjl
  rw [hx] at hcell hrd hDj
  obtain ⟨xb, xo, x', rfl, hxb, hx', hxc⟩ := hrd.at 0 (by simp)
  obtain rfl : x = x' := by simpa using hx'
  obtain ⟨x0, x1, x2, x3, x4⟩ := flt_five hxc
  simp only [Nat.zero_mul, Nat.add_zero] at x1
  have hto := hf.fb _ _ x hDj (List.mem_cons_self ..)
  obtain ⟨t, ht⟩ : ∃ t : Nat, x.to = (t : Int) := ⟨x.to.toNat, by omega⟩
  have ht2 : x.to.toNat = t := by omega
  rw [ht] at x1
  have htk : t < k := by omega
  have hlt := sq_ltW ha htk
  obtain ⟨m, hm⟩ : ∃ m, (x :: tl).length = m := ⟨_, rfl⟩
  have hm0 : 0 < m := by rw [← hm]; simp
  have hm2 : (0 : Int) < (m : Int) := by omega
  rw [hm] at hcell
  have hkc : (countG N.W N.H).toNat = k := by rw [hf.cnt]; rfl
  obtain ⟨ak, hak⟩ : ∃ q, a * k = q := ⟨_, rfl⟩
  have g1 : IntKind.i64.wrap ((a : Int) * (k : Int)) = (ak : Int) := wrapN (by rw [← hak, Int.natCast_mul]) (by omega)
  obtain ⟨u, hu⟩ : ∃ u, a * k + t = u := ⟨_, rfl⟩
  have g2 : IntKind.i64.wrap ((ak : Int) + (t : Int)) = (u : Int) := wrapN (by omega) (by omega)
  have f2 : (0 : Int) ≤ (u : Int) := by omega
  have hl1 : (u : Int) < (N.ta.length : Int) := by rw [hf.ta]; omega
  have hl2 : (u : Int) < (N.tb.length : Int) := by rw [hf.tb]; omega
  have hNC := fun w' => implNCk N.W N.H (k : Int) hf.cnt w'
  have HWT := Lib.hid (fun w' (hg : w.grownBy w' none) => implWaiting y N a p c (10 * a + i) sb so m c' (some ⟨xb, xo, none⟩) (by omega) (by omega) (by omega) (by omega) hA hjl hbl w' (hg.cell hcell (by simp)))
  have HNC := Lib.hid hNC
  obtain ⟨tb1, to1, hTA, _, hTC⟩ := h.ta.at u (by rw [hf.ta]; omega)
  obtain ⟨tb2, to2, hTB, _, hTD⟩ := h.tb.at u (by rw [hf.tb]; omega)
  rw [hkc, ht2, hu]
  obtain ⟨z, hz⟩ : ∃ z, (tabC N (i % 2)).getD u 0 = z := ⟨_, rfl⟩
  rw [hz]
  rw [hc] at hz
  obtain ⟨⟨A0, c0⟩, ⟨A1, c1⟩, ⟨A2, c2⟩, ⟨A3, c3⟩, ⟨A4, c4⟩, ⟨A5, c5⟩, ⟨A6, c6⟩, ⟨A7, c7⟩⟩ := y
  dsimp only at *
  subst hTA
  subst hTB
  have ge := gb_alloc (gb_alloc (gb_refl w none) (.cells #[.int .i64 N.W, .int .i64 N.H, .slice A0 N.br.length c0, .slice (some ⟨tb1, to1, none⟩) N.ta.length c1, .slice (some ⟨tb2, to2, none⟩) N.tb.length c2, .slice A3 N.bu.length c3, .slice A4 N.ow.length c4, .slice A5 N.tu.length c5, .slice A6 N.so.length c6, .slice A7 N.ar.length c7, .int .i64 N.ti] 44)) (.cells #[.int .i64 (a : Int), .int .i64 (p : Int), .int .i64 (c : Int)] 66)
  have kn := (Blk.new w 44 #[.int .i64 N.W, .int .i64 N.H, .slice A0 N.br.length c0, .slice (some ⟨tb1, to1, none⟩) N.ta.length c1, .slice (some ⟨tb2, to2, none⟩) N.tb.length c2, .slice A3 N.bu.length c3, .slice A4 N.ow.length c4, .slice A5 N.tu.length c5, .slice A6 N.so.length c6, .slice A7 N.ar.length c7, .int .i64 N.ti]).alloc (.cells #[.int .i64 (a : Int), .int .i64 (p : Int), .int .i64 (c : Int)] 66)
  have ki := Blk.new (w.alloc (.cells #[.int .i64 N.W, .int .i64 N.H, .slice A0 N.br.length c0, .slice (some ⟨tb1, to1, none⟩) N.ta.length c1, .slice (some ⟨tb2, to2, none⟩) N.tb.length c2, .slice A3 N.bu.length c3, .slice A4 N.ow.length c4, .slice A5 N.tu.length c5, .slice A6 N.so.length c6, .slice A7 N.ar.length c7, .int .i64 N.ti] 44)) 66 #[.int .i64 (a : Int), .int .i64 (p : Int), .int .i64 (c : Int)]
  simp only [alloc_size] at ki
  have xv := ge.cell x1 (by simp)
  clear hf ha hi hp hx h hrd hDj hx' hxc x0 x1 x2 x3 x4 hto ht ht2 htk hlt hm hkc hak hu hNC hA hcell hsb hxb hjl hbl hkk hk16
  by_cases hc1 : c = 1
  · rw [tabC, if_pos hc1] at hz
    subst hc1
    simp only [show ((1 : Nat) : Int) = 1 from rfl] at *
    rw [hz] at hTD
    have zv := ge.cell hTD (by simp)
    have KP := Lib.hid (fun w' (hg : ((w.alloc (.cells #[.int .i64 N.W, .int .i64 N.H, .slice A0 N.br.length c0, .slice (some ⟨tb1, to1, none⟩) N.ta.length c1, .slice (some ⟨tb2, to2, none⟩) N.tb.length c2, .slice A3 N.bu.length c3, .slice A4 N.ow.length c4, .slice A5 N.tu.length c5, .slice A6 N.so.length c6, .slice A7 N.ar.length c7, .int .i64 N.ti] 44)).alloc (.cells #[.int .i64 (a : Int), .int .i64 (p : Int), .int .i64 1] 66)).grownBy w' none) => (show w'.cell? ⟨w.heap.size, 0, none⟩ = some (.int .i64 N.W) ∧ w'.cell? ⟨w.heap.size, 1, none⟩ = some (.int .i64 N.H) ∧ w'.cell? ⟨w.heap.size, 2, none⟩ = some (.slice A0 N.br.length c0) ∧ w'.cell? ⟨w.heap.size, 3, none⟩ = some (.slice (some ⟨tb1, to1, none⟩) N.ta.length c1) ∧ w'.cell? ⟨w.heap.size, 4, none⟩ = some (.slice (some ⟨tb2, to2, none⟩) N.tb.length c2) ∧ w'.cell? ⟨w.heap.size, 5, none⟩ = some (.slice A3 N.bu.length c3) ∧ w'.cell? ⟨w.heap.size, 6, none⟩ = some (.slice A4 N.ow.length c4) ∧ w'.cell? ⟨w.heap.size, 7, none⟩ = some (.slice A5 N.tu.length c5) ∧ w'.cell? ⟨w.heap.size, 8, none⟩ = some (.slice A6 N.so.length c6) ∧ w'.cell? ⟨w.heap.size, 9, none⟩ = some (.slice A7 N.ar.length c7) ∧ w'.cell? ⟨w.heap.size, 10, none⟩ = some (.int .i64 N.ti) ∧ w'.cell? ⟨w.heap.size + 1, 0, none⟩ = some (.int .i64 (a : Int)) ∧ w'.cell? ⟨w.heap.size + 1, 1, none⟩ = some (.int .i64 (p : Int)) ∧ w'.cell? ⟨w.heap.size + 1, 2, none⟩ = some (.int .i64 1) ∧ w'.cell? ⟨xb, xo + 1, none⟩ = some (.int .i64 (t : Int)) ∧ w'.cell? ⟨tb2, to2 + u, none⟩ = some (.int .i64 z) from ⟨(kn.grown hg (by simp)).cell 0, (kn.grown hg (by simp)).cell 1, (kn.grown hg (by simp)).cell 2, (kn.grown hg (by simp)).cell 3, (kn.grown hg (by simp)).cell 4, (kn.grown hg (by simp)).cell 5, (kn.grown hg (by simp)).cell 6, (kn.grown hg (by simp)).cell 7, (kn.grown hg (by simp)).cell 8, (kn.grown hg (by simp)).cell 9, (kn.grown hg (by simp)).cell 10, (ki.grown hg (by simp)).cell 0, (ki.grown hg (by simp)).cell 1, (ki.grown hg (by simp)).cell 2, hg.cell xv (by simp), hg.cell zv (by simp)⟩))
    have b3 : ((w.alloc (.cells #[.int .i64 N.W, .int .i64 N.H, .slice A0 N.br.length c0, .slice (some ⟨tb1, to1, none⟩) N.ta.length c1, .slice (some ⟨tb2, to2, none⟩) N.tb.length c2, .slice A3 N.bu.length c3, .slice A4 N.ow.length c4, .slice A5 N.tu.length c5, .slice A6 N.so.length c6, .slice A7 N.ar.length c7, .int .i64 N.ti] 44)).alloc (.cells #[.int .i64 (a : Int), .int .i64 (p : Int), .int .i64 1] 66)).cell? ⟨w.heap.size, 3, none⟩ = some (.slice (some ⟨tb1, to1, none⟩) N.ta.length c1) := kn.cell 3
    have b4 : ((w.alloc (.cells #[.int .i64 N.W, .int .i64 N.H, .slice A0 N.br.length c0, .slice (some ⟨tb1, to1, none⟩) N.ta.length c1, .slice (some ⟨tb2, to2, none⟩) N.tb.length c2, .slice A3 N.bu.length c3, .slice A4 N.ow.length c4, .slice A5 N.tu.length c5, .slice A6 N.so.length c6, .slice A7 N.ar.length c7, .int .i64 N.ti] 44)).alloc (.cells #[.int .i64 (a : Int), .int .i64 (p : Int), .int .i64 1] 66)).cell? ⟨w.heap.size, 4, none⟩ = some (.slice (some ⟨tb2, to2, none⟩) N.tb.length c2) := kn.cell 4
    have i2 : ((w.alloc (.cells #[.int .i64 N.W, .int .i64 N.H, .slice A0 N.br.length c0, .slice (some ⟨tb1, to1, none⟩) N.ta.length c1, .slice (some ⟨tb2, to2, none⟩) N.tb.length c2, .slice A3 N.bu.length c3, .slice A4 N.ow.length c4, .slice A5 N.tu.length c5, .slice A6 N.so.length c6, .slice A7 N.ar.length c7, .int .i64 N.ti] 44)).alloc (.cells #[.int .i64 (a : Int), .int .i64 (p : Int), .int .i64 1] 66)).cell? ⟨w.heap.size + 1, 2, none⟩ = some (.int .i64 1) := ki.cell 2
    have GE := Lib.hid ge
    have T0 := Lib.hid (gb_refl ((w.alloc (.cells #[.int .i64 N.W, .int .i64 N.H, .slice A0 N.br.length c0, .slice (some ⟨tb1, to1, none⟩) N.ta.length c1, .slice (some ⟨tb2, to2, none⟩) N.tb.length c2, .slice A3 N.bu.length c3, .slice A4 N.ow.length c4, .slice A5 N.tu.length c5, .slice A6 N.so.length c6, .slice A7 N.ar.length c7, .int .i64 N.ti] 44)).alloc (.cells #[.int .i64 (a : Int), .int .i64 (p : Int), .int .i64 1] 66)) none)
    clear hTC hTD hz hc ge kn ki xv zv
    go_enter Try.func80, Try.ntmps80
    go_wp2_with fail
    generalize ((w.alloc (.cells #[.int .i64 N.W, .int .i64 N.H, .slice A0 N.br.length c0, .slice (some ⟨tb1, to1, none⟩) N.ta.length c1, .slice (some ⟨tb2, to2, none⟩) N.tb.length c2, .slice A3 N.bu.length c3, .slice A4 N.ow.length c4, .slice A5 N.tu.length c5, .slice A6 N.so.length c6, .slice A7 N.ar.length c7, .int .i64 N.ti] 44)).alloc (.cells #[.int .i64 (a : Int), .int .i64 (p : Int), .int .i64 1] 66)) = wv at *
    go_region_held3 (fun w' => w'.cell? ⟨w.heap.size, 0, none⟩ = some (.int .i64 N.W) ∧ w'.cell? ⟨w.heap.size, 1, none⟩ = some (.int .i64 N.H) ∧ w'.cell? ⟨w.heap.size, 2, none⟩ = some (.slice A0 N.br.length c0) ∧ w'.cell? ⟨w.heap.size, 3, none⟩ = some (.slice (some ⟨tb1, to1, none⟩) N.ta.length c1) ∧ w'.cell? ⟨w.heap.size, 4, none⟩ = some (.slice (some ⟨tb2, to2, none⟩) N.tb.length c2) ∧ w'.cell? ⟨w.heap.size, 5, none⟩ = some (.slice A3 N.bu.length c3) ∧ w'.cell? ⟨w.heap.size, 6, none⟩ = some (.slice A4 N.ow.length c4) ∧ w'.cell? ⟨w.heap.size, 7, none⟩ = some (.slice A5 N.tu.length c5) ∧ w'.cell? ⟨w.heap.size, 8, none⟩ = some (.slice A6 N.so.length c6) ∧ w'.cell? ⟨w.heap.size, 9, none⟩ = some (.slice A7 N.ar.length c7) ∧ w'.cell? ⟨w.heap.size, 10, none⟩ = some (.int .i64 N.ti) ∧ w'.cell? ⟨w.heap.size + 1, 0, none⟩ = some (.int .i64 (a : Int)) ∧ w'.cell? ⟨w.heap.size + 1, 1, none⟩ = some (.int .i64 (p : Int)) ∧ w'.cell? ⟨w.heap.size + 1, 2, none⟩ = some (.int .i64 1) ∧ w'.cell? ⟨xb, xo + 1, none⟩ = some (.int .i64 (t : Int)) ∧ w'.cell? ⟨tb2, to2 + u, none⟩ = some (.int .i64 z))
      (first | with_reducible exact KP.out _ (gb_drew T0.out) | with_reducible exact KP.out _ T6.out | with_reducible exact KP.out _ T5.out | with_reducible exact KP.out _ T0.out | fail)
      (first
        | (go_at_call 59; (with_reducible refine (HWT.out _ (gb_trans GE.out T5.out)).mono ?_); rintro e w6 ⟨rfl, hg⟩; have T6 := Lib.hid (gb_trans T5.out hg); clear hg)
        | (go_at_call 59; (with_reducible refine (HWT.out _ (gb_drew GE.out)).mono ?_); rintro e w6 ⟨rfl, hg⟩; have T6 := Lib.hid (gb_trans (gb_drew T0.out) hg); clear hg)
        | (go_at_call 71; (with_reducible refine (HNC.out _).mono ?_); rintro e w5 ⟨rfl, hg⟩; have T5 := Lib.hid (gb_trans T6.out hg); clear hg)
        | (go_at_call 71; (with_reducible refine (HNC.out _).mono ?_); rintro e w5 ⟨rfl, hg⟩; have T5 := Lib.hid (gb_trans (gb_drew T0.out) hg); clear hg)
        | fail)
    all_goals
      go_wp2_with fail
      go_ret
      first | exact ⟨rfl, gb_trans GE.out T6.out⟩ | exact ⟨rfl, gb_trans GE.out T5.out⟩
  · have hc2 : ¬ (c : Int) = 1 := by omega
    rw [tabC, if_neg (by omega)] at hz
    rw [hz] at hTC
    have zv := ge.cell hTC (by simp)
    have KP := Lib.hid (fun w' (hg : ((w.alloc (.cells #[.int .i64 N.W, .int .i64 N.H, .slice A0 N.br.length c0, .slice (some ⟨tb1, to1, none⟩) N.ta.length c1, .slice (some ⟨tb2, to2, none⟩) N.tb.length c2, .slice A3 N.bu.length c3, .slice A4 N.ow.length c4, .slice A5 N.tu.length c5, .slice A6 N.so.length c6, .slice A7 N.ar.length c7, .int .i64 N.ti] 44)).alloc (.cells #[.int .i64 (a : Int), .int .i64 (p : Int), .int .i64 (c : Int)] 66)).grownBy w' none) => (show w'.cell? ⟨w.heap.size, 0, none⟩ = some (.int .i64 N.W) ∧ w'.cell? ⟨w.heap.size, 1, none⟩ = some (.int .i64 N.H) ∧ w'.cell? ⟨w.heap.size, 2, none⟩ = some (.slice A0 N.br.length c0) ∧ w'.cell? ⟨w.heap.size, 3, none⟩ = some (.slice (some ⟨tb1, to1, none⟩) N.ta.length c1) ∧ w'.cell? ⟨w.heap.size, 4, none⟩ = some (.slice (some ⟨tb2, to2, none⟩) N.tb.length c2) ∧ w'.cell? ⟨w.heap.size, 5, none⟩ = some (.slice A3 N.bu.length c3) ∧ w'.cell? ⟨w.heap.size, 6, none⟩ = some (.slice A4 N.ow.length c4) ∧ w'.cell? ⟨w.heap.size, 7, none⟩ = some (.slice A5 N.tu.length c5) ∧ w'.cell? ⟨w.heap.size, 8, none⟩ = some (.slice A6 N.so.length c6) ∧ w'.cell? ⟨w.heap.size, 9, none⟩ = some (.slice A7 N.ar.length c7) ∧ w'.cell? ⟨w.heap.size, 10, none⟩ = some (.int .i64 N.ti) ∧ w'.cell? ⟨w.heap.size + 1, 0, none⟩ = some (.int .i64 (a : Int)) ∧ w'.cell? ⟨w.heap.size + 1, 1, none⟩ = some (.int .i64 (p : Int)) ∧ w'.cell? ⟨w.heap.size + 1, 2, none⟩ = some (.int .i64 (c : Int)) ∧ w'.cell? ⟨xb, xo + 1, none⟩ = some (.int .i64 (t : Int)) ∧ w'.cell? ⟨tb1, to1 + u, none⟩ = some (.int .i64 z) from ⟨(kn.grown hg (by simp)).cell 0, (kn.grown hg (by simp)).cell 1, (kn.grown hg (by simp)).cell 2, (kn.grown hg (by simp)).cell 3, (kn.grown hg (by simp)).cell 4, (kn.grown hg (by simp)).cell 5, (kn.grown hg (by simp)).cell 6, (kn.grown hg (by simp)).cell 7, (kn.grown hg (by simp)).cell 8, (kn.grown hg (by simp)).cell 9, (kn.grown hg (by simp)).cell 10, (ki.grown hg (by simp)).cell 0, (ki.grown hg (by simp)).cell 1, (ki.grown hg (by simp)).cell 2, hg.cell xv (by simp), hg.cell zv (by simp)⟩))
    have b3 : ((w.alloc (.cells #[.int .i64 N.W, .int .i64 N.H, .slice A0 N.br.length c0, .slice (some ⟨tb1, to1, none⟩) N.ta.length c1, .slice (some ⟨tb2, to2, none⟩) N.tb.length c2, .slice A3 N.bu.length c3, .slice A4 N.ow.length c4, .slice A5 N.tu.length c5, .slice A6 N.so.length c6, .slice A7 N.ar.length c7, .int .i64 N.ti] 44)).alloc (.cells #[.int .i64 (a : Int), .int .i64 (p : Int), .int .i64 (c : Int)] 66)).cell? ⟨w.heap.size, 3, none⟩ = some (.slice (some ⟨tb1, to1, none⟩) N.ta.length c1) := kn.cell 3
    have b4 : ((w.alloc (.cells #[.int .i64 N.W, .int .i64 N.H, .slice A0 N.br.length c0, .slice (some ⟨tb1, to1, none⟩) N.ta.length c1, .slice (some ⟨tb2, to2, none⟩) N.tb.length c2, .slice A3 N.bu.length c3, .slice A4 N.ow.length c4, .slice A5 N.tu.length c5, .slice A6 N.so.length c6, .slice A7 N.ar.length c7, .int .i64 N.ti] 44)).alloc (.cells #[.int .i64 (a : Int), .int .i64 (p : Int), .int .i64 (c : Int)] 66)).cell? ⟨w.heap.size, 4, none⟩ = some (.slice (some ⟨tb2, to2, none⟩) N.tb.length c2) := kn.cell 4
    have i2 : ((w.alloc (.cells #[.int .i64 N.W, .int .i64 N.H, .slice A0 N.br.length c0, .slice (some ⟨tb1, to1, none⟩) N.ta.length c1, .slice (some ⟨tb2, to2, none⟩) N.tb.length c2, .slice A3 N.bu.length c3, .slice A4 N.ow.length c4, .slice A5 N.tu.length c5, .slice A6 N.so.length c6, .slice A7 N.ar.length c7, .int .i64 N.ti] 44)).alloc (.cells #[.int .i64 (a : Int), .int .i64 (p : Int), .int .i64 (c : Int)] 66)).cell? ⟨w.heap.size + 1, 2, none⟩ = some (.int .i64 (c : Int)) := ki.cell 2
    have GE := Lib.hid ge
    have T0 := Lib.hid (gb_refl ((w.alloc (.cells #[.int .i64 N.W, .int .i64 N.H, .slice A0 N.br.length c0, .slice (some ⟨tb1, to1, none⟩) N.ta.length c1, .slice (some ⟨tb2, to2, none⟩) N.tb.length c2, .slice A3 N.bu.length c3, .slice A4 N.ow.length c4, .slice A5 N.tu.length c5, .slice A6 N.so.length c6, .slice A7 N.ar.length c7, .int .i64 N.ti] 44)).alloc (.cells #[.int .i64 (a : Int), .int .i64 (p : Int), .int .i64 (c : Int)] 66)) none)
    clear hTC hTD hz hc hc1 ge kn ki xv zv
    go_enter Try.func80, Try.ntmps80
    go_wp2_with fail
    generalize ((w.alloc (.cells #[.int .i64 N.W, .int .i64 N.H, .slice A0 N.br.length c0, .slice (some ⟨tb1, to1, none⟩) N.ta.length c1, .slice (some ⟨tb2, to2, none⟩) N.tb.length c2, .slice A3 N.bu.length c3, .slice A4 N.ow.length c4, .slice A5 N.tu.length c5, .slice A6 N.so.length c6, .slice A7 N.ar.length c7, .int .i64 N.ti] 44)).alloc (.cells #[.int .i64 (a : Int), .int .i64 (p : Int), .int .i64 (c : Int)] 66)) = wv at *
    go_region_held3 (fun w' => w'.cell? ⟨w.heap.size, 0, none⟩ = some (.int .i64 N.W) ∧ w'.cell? ⟨w.heap.size, 1, none⟩ = some (.int .i64 N.H) ∧ w'.cell? ⟨w.heap.size, 2, none⟩ = some (.slice A0 N.br.length c0) ∧ w'.cell? ⟨w.heap.size, 3, none⟩ = some (.slice (some ⟨tb1, to1, none⟩) N.ta.length c1) ∧ w'.cell? ⟨w.heap.size, 4, none⟩ = some (.slice (some ⟨tb2, to2, none⟩) N.tb.length c2) ∧ w'.cell? ⟨w.heap.size, 5, none⟩ = some (.slice A3 N.bu.length c3) ∧ w'.cell? ⟨w.heap.size, 6, none⟩ = some (.slice A4 N.ow.length c4) ∧ w'.cell? ⟨w.heap.size, 7, none⟩ = some (.slice A5 N.tu.length c5) ∧ w'.cell? ⟨w.heap.size, 8, none⟩ = some (.slice A6 N.so.length c6) ∧ w'.cell? ⟨w.heap.size, 9, none⟩ = some (.slice A7 N.ar.length c7) ∧ w'.cell? ⟨w.heap.size, 10, none⟩ = some (.int .i64 N.ti) ∧ w'.cell? ⟨w.heap.size + 1, 0, none⟩ = some (.int .i64 (a : Int)) ∧ w'.cell? ⟨w.heap.size + 1, 1, none⟩ = some (.int .i64 (p : Int)) ∧ w'.cell? ⟨w.heap.size + 1, 2, none⟩ = some (.int .i64 (c : Int)) ∧ w'.cell? ⟨xb, xo + 1, none⟩ = some (.int .i64 (t : Int)) ∧ w'.cell? ⟨tb1, to1 + u, none⟩ = some (.int .i64 z))
      (first | with_reducible exact KP.out _ (gb_drew T0.out) | with_reducible exact KP.out _ T6.out | with_reducible exact KP.out _ T5.out | with_reducible exact KP.out _ T0.out | fail)
      (first
        | (go_at_call 59; (with_reducible refine (HWT.out _ (gb_trans GE.out T5.out)).mono ?_); rintro e w6 ⟨rfl, hg⟩; have T6 := Lib.hid (gb_trans T5.out hg); clear hg)
        | (go_at_call 59; (with_reducible refine (HWT.out _ (gb_drew GE.out)).mono ?_); rintro e w6 ⟨rfl, hg⟩; have T6 := Lib.hid (gb_trans (gb_drew T0.out) hg); clear hg)
        | (go_at_call 71; (with_reducible refine (HNC.out _).mono ?_); rintro e w5 ⟨rfl, hg⟩; have T5 := Lib.hid (gb_trans T6.out hg); clear hg)
        | (go_at_call 71; (with_reducible refine (HNC.out _).mono ?_); rintro e w5 ⟨rfl, hg⟩; have T5 := Lib.hid (gb_trans (gb_drew T0.out) hg); clear hg)
        | fail)
    all_goals
      go_wp2_with fail
      go_ret
      first | exact ⟨rfl, gb_trans GE.out T6.out⟩ | exact ⟨rfl, gb_trans GE.out T5.out⟩
end Go.Proofs.Ytplpdjpldadcmaa
end

section
namespace Go.Proofs.Ytplpdjpldadcmaa
open Go.ChangeShapes Go.WideShapes Go.ChangeAt Go.RowKit
set_option linter.unusedVariables false

def hasPlaceG (W H x y : Int) : Bool := decide (okG W H = true ∧ 0 ≤ x ∧ x < W ∧ 0 ≤ y ∧ y < H)

theorem implHasPlace (W H x y : Int) (w : World) :
    Calls Try.prog 106 #[.agg #[.int .i64 W, .int .i64 H], .int .i64 x, .int .i64 y] w (RetB (hasPlaceG W H x y) w) := by
  cases hok : okG W H with
  | true =>
    obtain ⟨p1, p2, p3, p4⟩ := okG_iff.1 hok
    by_cases h1 : x ≥ 0 <;> by_cases h2 : x < W <;> by_cases h3 : y ≥ 0 <;> by_cases h4 : y < H
    all_goals first | (exfalso; omega) | skip
    all_goals
      go_enter Try.func106, Try.ntmps106
      go_wp2_with fail
      refine (implGridOk W H _).mono ?_
      rintro e w1 ⟨rfl, hg⟩
      have hb := boxi_blk hg
      have c0 := hb.cell 0
      have c1 := hb.cell 1
      have Hg := Lib.hid hg
      clear hg hb
      simp at c0 c1
      rw [hok]
      go_wp2_with fail
      go_ret
      exact ⟨ret_bool (by
        unfold hasPlaceG
        first
        | exact (decide_eq_true ⟨hok, by omega⟩).symm
        | exact (decide_eq_false (fun h => by have := h.2; omega)).symm
        | exact decide_eq_decide.2 ⟨fun h => by omega, fun h => h.2.2.2.2⟩), boxi_gb Hg.out⟩
  | false =>
    go_enter Try.func106, Try.ntmps106
    go_wp2_with fail
    refine (implGridOk W H _).mono ?_
    rintro e w1 ⟨rfl, hg⟩
    rw [hok]
    go_wp2_with fail
    go_ret
    exact ⟨ret_bool (by simp [hasPlaceG, hok]), boxi_gb hg⟩

theorem implNodeAt (W H x y : Int) (w : World) :
    Calls Try.prog 100 #[.agg #[.int .i64 W, .int .i64 H], .int .i64 x, .int .i64 y] w (RetI (atG W H x y) none w) := by
  cases hp : hasPlaceG W H x y with
  | true =>
    obtain ⟨hok, hx0, hx1, hy0, hy1⟩ : okG W H = true ∧ 0 ≤ x ∧ x < W ∧ 0 ≤ y ∧ y < H := by simpa [hasPlaceG] using hp
    obtain ⟨hW, hH⟩ := okG_cases hok
    rcases hW with rfl | rfl | rfl | rfl
    all_goals
      go_enter Try.func100, Try.ntmps100
      go_wp2_with fail
      refine (implHasPlace _ H x y _).mono ?_
      rintro e w1 ⟨rfl, hg⟩
      have hb := boxi_blk hg
      have c0 := hb.cell 0
      have Hg := Lib.hid hg
      clear hg hb
      simp at c0
      rw [hp]
      go_wp2_with fail
      go_ret
      exact ⟨ret_int64 (by unfold atG; rw [if_pos ⟨hok, by omega⟩] <;> omega), boxi_gb Hg.out⟩
  | false =>
    go_enter Try.func100, Try.ntmps100
    go_wp2_with fail
    refine (implHasPlace W H x y _).mono ?_
    rintro e w1 ⟨rfl, hg⟩
    rw [hp]
    go_wp2_with fail
    go_ret
    exact ⟨ret_int64 (by unfold atG; rw [if_neg (by simpa [hasPlaceG] using hp)]), boxi_gb hg⟩
end Go.Proofs.Ytplpdjpldadcmaa
end

section
namespace Go.Proofs.Ytplpdjpldadcmaa
open Go.ChangeShapes Go.WideShapes Go.ChangeAt Go.RowKit
set_option linter.unusedVariables false

/-- A node's column and row. -/
theorem implPlace (W H n x y : Int) (hh : hasG W H n = true) (hx : n % W = x) (hy : n / W = y) (w : World) :
    Calls Try.prog 99 #[.agg #[.int .i64 W, .int .i64 H], .int .i64 n] w fun e w' => e = .returned (.tuple #[.int .i64 x, .int .i64 y]) ∧ w.grownBy w' none := by
  obtain ⟨hW, hH⟩ := okG_cases (hasG_ok hh).1
  obtain ⟨h0, h1⟩ := hasG_le hh
  have hq := row_wrap h0 h1 hW
  have da : n.tdiv W = y := by rw [Int.tdiv_eq_ediv_of_nonneg h0]; exact hy
  have ta : n.tmod W = x := by rw [Int.tmod_eq_emod_of_nonneg h0]; exact hx
  obtain ⟨a0, a1, a2, a3, a4⟩ := place_of hh
  rw [hx] at a0 a1
  rw [hy] at a2 a3
  have hWn : W ≠ 0 := by omega
  have hW1 : 1 ≤ W := by omega
  have hW2 : W ≤ 4 := by omega
  have hH2 : H ≤ 4 := by omega
  clear hW hH hx hy hq a4 h0
  go_enter Try.func99, Try.ntmps99
  go_wp2_with fail
  go_quiet (fail)
  go_wp2_with fail
  go_ret2
  exact ⟨rfl, gb_drewN (gb_alloc (gb_refl _ _) _) _⟩

theorem gb_undrew {a b : World} {row : Option Nat} (h : a.drew.grownBy b row) : a.grownBy b row := ⟨h.os, h.tape, h.output, h.size, h.block⟩
end Go.Proofs.Ytplpdjpldadcmaa
end

section
namespace Go.Proofs.Ytplpdjpldadcmaa
open Go.ChangeShapes Go.WideShapes Go.ChangeAt Go.RowKit
set_option linter.unusedVariables false

theorem implNodeAtV (W H x y n : Int) (h : atG W H x y = n) (w : World) :
    Calls Try.prog 100 #[.agg #[.int .i64 W, .int .i64 H], .int .i64 x, .int .i64 y] w (RetI n none w) := h ▸ implNodeAt W H x y w

theorem implNextNode (W H n p : Int) (w : World) :
    Calls Try.prog 92 #[.agg #[.int .i64 W, .int .i64 H], .int .i64 n, .int .i64 p] w (RetI (nextG W H n p) none w) := by
  cases hh : hasG W H n with
  | true =>
    obtain ⟨hW, hH⟩ := okG_cases (hasG_ok hh).1
    obtain ⟨a0, a1, a2, a3, a4⟩ := place_of hh
    have hN : nextG W H n p = (if p = 0 then atG W H (n % W) (n / W - 1) else if p = 1 then atG W H (n % W + 1) (n / W) else if p = 2 then atG W H (n % W) (n / W + 1) else if p = 3 then atG W H (n % W - 1) (n / W) else if p = 4 then n else -1) := by simp [nextG, hh]
    obtain ⟨x, hx⟩ : ∃ x, n % W = x := ⟨_, rfl⟩
    obtain ⟨y, hy⟩ : ∃ y, n / W = y := ⟨_, rfl⟩
    rw [hx, hy] at hN
    rw [hx] at a0 a1
    rw [hy] at a2 a3
    have x1 : x ≤ 4 := by omega
    have y1 : y ≤ 4 := by omega
    obtain ⟨r, hr⟩ : ∃ r, nextG W H n p = r := ⟨_, rfl⟩
    rw [hr] at hN ⊢
    have HP := Lib.hid (fun w => implPlace W H n x y hh hx hy w)
    clear a1 a3 a4 hW hH hr hx hy
    by_cases p0 : p = 0
    · subst p0
      simp at hN
      go_enter Try.func92, Try.ntmps92
      go_wp2_with fail
      refine (implHasNode W H n _).mono ?_
      rintro e w1 ⟨rfl, hg⟩
      have hb := boxi_blk hg
      have c0 := hb.cell 0
      have c1 := hb.cell 1
      have Hg := Lib.hid (boxi_gb hg)
      clear hg hb
      simp at c0 c1
      rw [hh]
      go_wp2_with fail
      refine (HP.out _).mono ?_
      rintro e w2 ⟨rfl, hg2⟩
      have d0 := hg2.cell c0 (by simp)
      have d1 := hg2.cell c1 (by simp)
      have Hg2 := Lib.hid (gb_trans Hg.out hg2)
      clear hg2 c0 c1
      go_wp2_with fail
      refine (implNodeAtV W H x (y - 1) r hN.symm _).mono ?_
      rintro e w3 ⟨rfl, hg3⟩
      have Hg3 := Lib.hid (gb_trans Hg2.out hg3)
      clear hg3
      go_wp2_with fail
      go_ret
      exact ⟨ret_int64 hN.symm, Hg3.out⟩
    by_cases p1 : p = 1
    · subst p1
      simp at hN
      go_enter Try.func92, Try.ntmps92
      go_wp2_with fail
      refine (implHasNode W H n _).mono ?_
      rintro e w1 ⟨rfl, hg⟩
      have hb := boxi_blk hg
      have c0 := hb.cell 0
      have c1 := hb.cell 1
      have Hg := Lib.hid (boxi_gb hg)
      clear hg hb
      simp at c0 c1
      rw [hh]
      go_wp2_with fail
      refine (HP.out _).mono ?_
      rintro e w2 ⟨rfl, hg2⟩
      have d0 := hg2.cell c0 (by simp)
      have d1 := hg2.cell c1 (by simp)
      have Hg2 := Lib.hid (gb_trans Hg.out hg2)
      clear hg2 c0 c1
      go_wp2_with fail
      refine (implNodeAtV W H (x + 1) y r hN.symm _).mono ?_
      rintro e w3 ⟨rfl, hg3⟩
      have Hg3 := Lib.hid (gb_trans Hg2.out hg3)
      clear hg3
      go_wp2_with fail
      go_ret
      exact ⟨ret_int64 hN.symm, Hg3.out⟩
    by_cases p2 : p = 2
    · subst p2
      simp at hN
      go_enter Try.func92, Try.ntmps92
      go_wp2_with fail
      refine (implHasNode W H n _).mono ?_
      rintro e w1 ⟨rfl, hg⟩
      have hb := boxi_blk hg
      have c0 := hb.cell 0
      have c1 := hb.cell 1
      have Hg := Lib.hid (boxi_gb hg)
      clear hg hb
      simp at c0 c1
      rw [hh]
      go_wp2_with fail
      refine (HP.out _).mono ?_
      rintro e w2 ⟨rfl, hg2⟩
      have d0 := hg2.cell c0 (by simp)
      have d1 := hg2.cell c1 (by simp)
      have Hg2 := Lib.hid (gb_trans Hg.out hg2)
      clear hg2 c0 c1
      go_wp2_with fail
      refine (implNodeAtV W H x (y + 1) r hN.symm _).mono ?_
      rintro e w3 ⟨rfl, hg3⟩
      have Hg3 := Lib.hid (gb_trans Hg2.out hg3)
      clear hg3
      go_wp2_with fail
      go_ret
      exact ⟨ret_int64 hN.symm, Hg3.out⟩
    by_cases p3 : p = 3
    · subst p3
      simp at hN
      go_enter Try.func92, Try.ntmps92
      go_wp2_with fail
      refine (implHasNode W H n _).mono ?_
      rintro e w1 ⟨rfl, hg⟩
      have hb := boxi_blk hg
      have c0 := hb.cell 0
      have c1 := hb.cell 1
      have Hg := Lib.hid (boxi_gb hg)
      clear hg hb
      simp at c0 c1
      rw [hh]
      go_wp2_with fail
      refine (HP.out _).mono ?_
      rintro e w2 ⟨rfl, hg2⟩
      have d0 := hg2.cell c0 (by simp)
      have d1 := hg2.cell c1 (by simp)
      have Hg2 := Lib.hid (gb_trans Hg.out hg2)
      clear hg2 c0 c1
      go_wp2_with fail
      refine (implNodeAtV W H (x - 1) y r hN.symm _).mono ?_
      rintro e w3 ⟨rfl, hg3⟩
      have Hg3 := Lib.hid (gb_trans Hg2.out hg3)
      clear hg3
      go_wp2_with fail
      go_ret
      exact ⟨ret_int64 hN.symm, Hg3.out⟩
    by_cases p4 : p = 4
    · subst p4
      simp at hN
      go_enter Try.func92, Try.ntmps92
      go_wp2_with fail
      refine (implHasNode W H n _).mono ?_
      rintro e w1 ⟨rfl, hg⟩
      have hb := boxi_blk hg
      have c0 := hb.cell 0
      have c1 := hb.cell 1
      have Hg := Lib.hid (boxi_gb hg)
      clear hg hb
      simp at c0 c1
      rw [hh]
      go_wp2_with fail
      refine (HP.out _).mono ?_
      rintro e w2 ⟨rfl, hg2⟩
      have d0 := hg2.cell c0 (by simp)
      have d1 := hg2.cell c1 (by simp)
      have Hg2 := Lib.hid (gb_trans Hg.out hg2)
      clear hg2 c0 c1
      go_wp2_with fail
      go_ret
      exact ⟨ret_int64 hN.symm, Hg2.out⟩
    simp [p0, p1, p2, p3, p4] at hN
    have q0 : (p == 0) = false := by simpa using p0
    have q1 : (p == 1) = false := by simpa using p1
    have q2 : (p == 2) = false := by simpa using p2
    have q3 : (p == 3) = false := by simpa using p3
    have q4 : (p == 4) = false := by simpa using p4
    clear p0 p1 p2 p3 p4
    go_enter Try.func92, Try.ntmps92
    go_wp2_with fail
    refine (implHasNode W H n _).mono ?_
    rintro e w1 ⟨rfl, hg⟩
    have hb := boxi_blk hg
    have c0 := hb.cell 0
    have c1 := hb.cell 1
    have Hg := Lib.hid (boxi_gb hg)
    clear hg hb
    simp at c0 c1
    rw [hh]
    go_wp2_with fail
    refine (HP.out _).mono ?_
    rintro e w2 ⟨rfl, hg2⟩
    have d0 := hg2.cell c0 (by simp)
    have d1 := hg2.cell c1 (by simp)
    have Hg2 := Lib.hid (gb_trans Hg.out hg2)
    clear hg2 c0 c1
    go_wp2_with fail
    go_ret
    exact ⟨ret_int64 hN.symm, Hg2.out⟩
  | false =>
    go_enter Try.func92, Try.ntmps92
    go_wp2_with fail
    refine (implHasNode W H n _).mono ?_
    rintro e w1 ⟨rfl, hg⟩
    rw [hh]
    go_wp2_with fail
    go_ret
    exact ⟨ret_int64 (by simp [nextG, hh]), boxi_gb hg⟩

theorem implNextNodeV (W H n p r : Int) (h : nextG W H n p = r) (w : World) :
    Calls Try.prog 92 #[.agg #[.int .i64 W, .int .i64 H], .int .i64 n, .int .i64 p] w (RetI r none w) := h ▸ implNextNode W H n p w

/-- Where a channel leads, by the rounding of the language. -/
def endG (W H c : Int) : Int := nextG W H (c.tdiv 4) (c.tmod 4)
theorem leads_end (W H c : Int) : leadsG W H c = decide (0 ≤ endG W H c) := by
  unfold leadsG endG
  by_cases h0 : 0 ≤ c
  · rw [Int.tdiv_eq_ediv_of_nonneg h0, Int.tmod_eq_emod_of_nonneg h0]
    refine decide_eq_decide.2 ⟨fun h => h.2.2, fun h => ⟨h0, ?_, h⟩⟩
    cases hh : hasG W H (c / 4) with
    | true => have := (hasG_iff.1 hh).2; omega
    | false => simp [nextG, hh] at h
  · refine decide_eq_decide.2 ⟨fun h => absurd h.1 h0, fun h => ?_⟩
    exfalso
    cases hh : hasG W H (c.tdiv 4) with
    | true =>
      have h1 := (hasG_iff.1 hh).1
      have h2 : c.tmod 4 < 0 := by
        have e := Int.mul_tdiv_add_tmod c 4
        omega
      rw [nextG_has (by omega)] at h
      omega
    | false => simp [nextG, hh] at h
theorem implEnd (W H c r : Int) (hc : (Lit.int .i64 c).wf = true) (hr : endG W H c = r) (w : World) :
    Calls Try.prog 97 #[.agg #[.int .i64 W, .int .i64 H], .int .i64 c] w (RetI r none w) := by
  have hb := bounds_i64 hc
  have hm : c.tmod 4 < 4 ∧ -4 < c.tmod 4 := ⟨Int.tmod_lt_of_pos _ (by omega), by have := Int.lt_tmod_of_pos c (b := 4) (by omega); omega⟩
  have hq : wrap64 (c.tdiv 4) = c.tdiv 4 := IntWalk.wrap64_in _ (by have := Int.mul_tdiv_add_tmod c 4; omega)
  clear hm
  have HC := Lib.hid (fun w => implNextNodeV W H (c.tdiv 4) (c.tmod 4) r hr w)
  clear hc hr hb
  go_enter Try.func97, Try.ntmps97
  go_wp2_with fail
  simp only [hq]
  refine (HC.out _).mono ?_
  rintro e w1 ⟨rfl, hg⟩
  have Hg := Lib.hid (boxi_gb hg)
  clear hg
  go_wp2_with fail
  go_ret
  exact ⟨rfl, Hg.out⟩
end Go.Proofs.Ytplpdjpldadcmaa
end

section
namespace Go.Proofs.Ytplpdjpldadcmaa
open Go.ChangeShapes Go.WideShapes Go.ChangeAt Go.RowKit
set_option linter.unusedVariables false

/-- An index, or -1. -/
def Idx (L : List Int) (c : Int) (w : World) (e : Ending) (w' : World) : Prop := ∃ k : Int, e = .returned (.int .i64 k) ∧ decide (0 ≤ k) = inG L c ∧ w = w'
theorem implIndex (A : Option Addr) (n cap B : Nat) (L : List Int) (c : Int) (w : World) (h : IntAt w B A n L) (hn : n ≤ 1000000000) :
    Calls Try.prog 105 #[.slice A n cap, .int .i64 c] w (Idx L c w) := by
  have hl := h.1
  have HI := Lib.hid h
  clear h
  go_enter Try.func105, Try.ntmps105
  go_wp2_with fail
  go_loop [8] (fun i => ∃ k : Nat, i = .int .i64 (k : Int) ∧ k ≤ n ∧ ∀ j, j < k → L.getD j 0 ≠ c) (fun i => n - (intOf i).toNat)
  case atStart => exact ⟨0, rfl, Nat.zero_le _, fun j h => by omega⟩
  case round =>
    obtain ⟨k, rfl, hk, hne⟩ := hrel
    have HNE := Lib.hid hne
    clear hne
    by_cases hlt : k < n
    · obtain ⟨b, off, rfl, hb, hc⟩ := HI.out.at k hlt
      obtain ⟨x, hx⟩ : ∃ x, L.getD k 0 = x := ⟨_, rfl⟩
      rw [hx] at hc
      have HX := Lib.hid hx
      clear hx
      by_cases hxc : x = c
      · subst hxc
        go_wp2_with fail
        go_ret
        exact ⟨_, rfl, by rw [inG_yes (by omega) HX.out]; exact decide_eq_true (by omega), rfl⟩
      · have hxb : (c == x) = false := by simpa using fun e => hxc e.symm
        have HXC := Lib.hid hxc
        clear hxc
        go_wp2_with fail
        go_round
        case rel => exact ⟨k + 1, by go_num, by omega, fun j hj => by
          rcases Nat.lt_succ_iff_lt_or_eq.1 hj with h1 | rfl
          · exact HNE.out j h1
          · rw [HX.out]; exact HXC.out⟩
        case measure => simp [intOf]; omega
    · obtain rfl : k = n := by omega
      go_wp2_with fail
      go_ret
      exact ⟨-1, rfl, by rw [inG_no (fun j hj => HNE.out j (by omega))]; rfl, rfl⟩

theorem implContains (A : Option Addr) (n cap B : Nat) (L : List Int) (c : Int) (b : Bool) (hb : inG L c = b) (w : World) (h : IntAt w B A n L) (hn : n ≤ 1000000000) :
    Calls Try.prog 98 #[.slice A n cap, .int .i64 c] w fun e w' => e = .returned (.bool b) ∧ w = w' := by
  have HC := Lib.hid (fun w h => implIndex A n cap B L c w h hn)
  have HI := Lib.hid h
  clear h
  go_enter Try.func98, Try.ntmps98
  go_wp2_with fail
  refine (HC.out _ HI.out).mono ?_
  rintro e w1 ⟨k, rfl, hk, rfl⟩
  rw [hb] at hk
  have HK := Lib.hid hk
  clear hk hb
  go_wp2_with fail
  go_ret
  exact ⟨ret_bool (by rw [← HK.out]), rfl⟩

end Go.Proofs.Ytplpdjpldadcmaa
end

section
namespace Go.Proofs.Ytplpdjpldadcmaa
open Go.ChangeShapes Go.WideShapes Go.ChangeAt Go.RowKit
set_option linter.unusedVariables false

/-- The numbers of L have 64 bits. -/
def WfL (L : List Int) : Prop := ∀ x ∈ L, (Lit.int .i64 x).wf = true
theorem WfL.get {L : List Int} (h : WfL L) {k : Nat} {x : Int} (hk : k < L.length) (hx : L.getD k 0 = x) : (Lit.int .i64 x).wf = true := by
  rw [List.getD_eq_getElem?_getD, List.getElem?_eq_getElem hk] at hx
  simp only [Option.getD_some] at hx
  exact h x (hx ▸ List.getElem_mem hk)
theorem leads_wf {W H c : Int} (h : leadsG W H c = true) : (Lit.int .i64 c).wf = true := by
  have h1 : 0 ≤ c ∧ c < 4 * countG W H ∧ 0 ≤ nextG W H (c / 4) (c % 4) := by simpa [leadsG] using h
  have h2 := countG_le W H
  exact WalkArith.wf_i64 (by omega)
theorem mesh_wf {W H : Int} {L : List Int} (h : meshG W H L = true) : WfL L := fun x hx => by
  obtain ⟨j, hj, rfl⟩ := List.getElem_of_mem hx
  have h1 := (meshG_ok h).2 j hj
  simp only [goodAt, Bool.and_eq_true] at h1
  refine leads_wf (W := W) (H := H) ?_
  have := h1.1
  rw [List.getD_eq_getElem?_getD, List.getElem?_eq_getElem hj] at this
  exact this
end Go.Proofs.Ytplpdjpldadcmaa
end

section
namespace Go.Proofs.Ytplpdjpldadcmaa
open Go.ChangeShapes Go.WideShapes Go.ChangeAt Go.RowKit
set_option linter.unusedVariables false

theorem implConnects (W H : Int) (A : Option Addr) (n cap : Nat) (L : List Int) (c : Int) (b : Bool) (hcw : (Lit.int .i64 c).wf = true) (hb : hasChG W H L c = b) (w : World) (h : IntAt w w.heap.size A n L) (hn : n ≤ 1000000000) :
    Calls Try.prog 91 #[.agg #[.int .i64 W, .int .i64 H, .slice A n cap], .int .i64 c] w (RetB b w) := by
  obtain ⟨r, hr⟩ : ∃ r, endG W H c = r := ⟨_, rfl⟩
  have HE := Lib.hid (fun w => implEnd W H c r hcw hr w)
  have HI := Lib.hid h
  have hld := leads_end W H c
  rw [hr] at hld
  clear h hcw hr
  by_cases h0 : 0 ≤ r
  · obtain ⟨q, hq⟩ : ∃ q, inG L c = q := ⟨_, rfl⟩
    have hv : b = !q := by rw [← hb, hasChG, hld, decide_eq_true h0, hq]; rfl
    have HV := Lib.hid hv
    have hd : decide (r ≥ 0) = true := decide_eq_true h0
    have HF := Lib.hid (fun w h => implContains A n cap (w.heap.size) L c q hq w h hn)
    clear hv hld hb hq
    go_enter Try.func91, Try.ntmps91
    go_wp2_with fail
    refine (HE.out _).mono ?_
    rintro e w1 ⟨rfl, hg⟩
    have hbk := boxi_blk hg
    have a2 : w1.cell? ⟨w.heap.size, 2, none⟩ = some (.slice A n cap) := hbk.cell 2
    have hi := (HI.out.none (Nat.le_refl _) (boxi_gb hg)).more (B' := w1.heap.size) (boxi_gb hg).size
    have Hg := Lib.hid (boxi_gb hg)
    clear hg hbk
    go_wp2_with fail
    refine (HF.out _ hi).mono ?_
    rintro e w2 ⟨rfl, rfl⟩
    clear hi
    go_wp2_with fail
    go_ret
    exact ⟨ret_bool (by rw [HV.out]), Hg.out⟩
  · have hv : b = false := by rw [← hb, hasChG, hld, decide_eq_false h0]; rfl
    have hd : decide (r ≥ 0) = false := decide_eq_false h0
    have HV := Lib.hid hv
    clear hv hld hb
    go_enter Try.func91, Try.ntmps91
    go_wp2_with fail
    refine (HE.out _).mono ?_
    rintro e w1 ⟨rfl, hg⟩
    have Hg := Lib.hid (boxi_gb hg)
    clear hg
    go_wp2_with fail
    go_ret
    exact ⟨ret_bool (by rw [HV.out]), Hg.out⟩
end Go.Proofs.Ytplpdjpldadcmaa
end

section
namespace Go.Proofs.Ytplpdjpldadcmaa
open Go.ChangeShapes Go.WideShapes Go.ChangeAt Go.RowKit
set_option linter.unusedVariables false

theorem implOpposite (p : Int) (w : World) :
    Calls Try.prog 93 #[.int .i64 p] w fun e w' => e = .returned (.int .i64 (oppG p)) ∧ w.grownBy w' none := by
  by_cases p0 : p = 0
  · subst p0
    go_enter Try.func93, Try.ntmps93
    go_wp2_with fail
    go_ret
    exact ⟨rfl, gb_refl _ _⟩
  by_cases p1 : p = 1
  · subst p1
    go_enter Try.func93, Try.ntmps93
    go_wp2_with fail
    go_ret
    exact ⟨rfl, gb_refl _ _⟩
  by_cases p2 : p = 2
  · subst p2
    go_enter Try.func93, Try.ntmps93
    go_wp2_with fail
    go_ret
    exact ⟨rfl, gb_refl _ _⟩
  by_cases p3 : p = 3
  · subst p3
    go_enter Try.func93, Try.ntmps93
    go_wp2_with fail
    go_ret
    exact ⟨rfl, gb_refl _ _⟩
  by_cases p4 : p = 4
  · subst p4
    go_enter Try.func93, Try.ntmps93
    go_wp2_with fail
    go_ret
    exact ⟨rfl, gb_refl _ _⟩
  have hv : oppG p = -1 := by unfold oppG; rw [if_neg p0, if_neg p1, if_neg p2, if_neg p3, if_neg p4]
  have q0 : (p == 0) = false := by simpa using p0
  have q1 : (p == 1) = false := by simpa using p1
  have q2 : (p == 2) = false := by simpa using p2
  have q3 : (p == 3) = false := by simpa using p3
  have q4 : (p == 4) = false := by simpa using p4
  clear p0 p1 p2 p3 p4
  have HV := Lib.hid hv
  clear hv
  go_enter Try.func93, Try.ntmps93
  go_wp2_with fail
  go_ret
  exact ⟨by rw [HV.out]; rfl, gb_refl _ _⟩
end Go.Proofs.Ytplpdjpldadcmaa
end

section
namespace Go.Proofs.Ytplpdjpldadcmaa
open Go.ChangeShapes Go.WideShapes Go.ChangeAt Go.RowKit
set_option linter.unusedVariables false
set_option maxRecDepth 20000

theorem wf_nat {s : Nat} (h : s ≤ 1000000) : (Lit.int .i64 (s : Int)).wf = true := by
  exact WalkArith.wf_i64 (by omega)
set_option maxHeartbeats 1600000 in
theorem implBehind_no (y : Na) (N : Nt) (k a q c : Nat) (hf : Fit N k) (hn : NetSm N) (ha : a < k) (hq : q < 4) (hc : c < 2) (hch : hasChG N.W N.H N.br ((4 * a + q : Nat) : Int) = false) (w : World) (h : NetIn w w.heap.size y N) :
    Calls Try.prog 72 #[.agg #[.int .i64 N.W, .int .i64 N.H, .slice y.br.A N.br.length y.br.c, .slice y.ta.A N.ta.length y.ta.c, .slice y.tb.A N.tb.length y.tb.c, .slice y.bu.A N.bu.length y.bu.c, .slice y.ow.A N.ow.length y.ow.c, .slice y.tu.A N.tu.length y.tu.c, .slice y.so.A N.so.length y.so.c, .slice y.ar.A N.ar.length y.ar.c, .int .i64 N.ti], .int .i64 (a : Int), .int .i64 (q : Int), .int .i64 (c : Int)] w (RetI (-1) none w) := by
  have hk16 := hf.k16
  have hbr := hn.br
  have ge := gb_alloc (gb_refl w none) (.cells #[.int .i64 N.W, .int .i64 N.H, .slice y.br.A N.br.length y.br.c, .slice y.ta.A N.ta.length y.ta.c, .slice y.tb.A N.tb.length y.tb.c, .slice y.bu.A N.bu.length y.bu.c, .slice y.ow.A N.ow.length y.ow.c, .slice y.tu.A N.tu.length y.tu.c, .slice y.so.A N.so.length y.so.c, .slice y.ar.A N.ar.length y.ar.c, .int .i64 N.ti] 44)
  have hin := (h.none (Nat.le_refl _) ge).more ge.size
  have kb := Blk.new w 44 #[.int .i64 N.W, .int .i64 N.H, .slice y.br.A N.br.length y.br.c, .slice y.ta.A N.ta.length y.ta.c, .slice y.tb.A N.tb.length y.tb.c, .slice y.bu.A N.bu.length y.bu.c, .slice y.ow.A N.ow.length y.ow.c, .slice y.tu.A N.tu.length y.tu.c, .slice y.so.A N.so.length y.so.c, .slice y.ar.A N.ar.length y.ar.c, .int .i64 N.ti]
  obtain ⟨s0, hs0⟩ : ∃ s, 4 * a = s := ⟨_, rfl⟩
  obtain ⟨s1, hs1⟩ : ∃ s, 4 * a + q = s := ⟨_, rfl⟩
  have e1 : IntKind.i64.wrap (4 * (a : Int)) = (s0 : Int) := wrapN (by omega) (by omega)
  have e2 : IntKind.i64.wrap ((s0 : Int) + (q : Int)) = (s1 : Int) := wrapN (by omega) (by omega)
  have hcw : (Lit.int .i64 (s1 : Int)).wf = true := wf_nat (by omega)
  rw [hs1] at hch
  have HCN := Lib.hid (fun w' hh => implConnects N.W N.H y.br.A N.br.length y.br.c N.br (s1 : Int) false hcw hch w' hh hbr)
  have GE := Lib.hid ge
  have HIN := Lib.hid hin
  clear h hn hf ge hin hs0 hs1 hcw hch kb
  go_enter Try.func72, Try.ntmps72
  go_wp2_with fail
  refine (HCN.out _ HIN.out.br).mono ?_
  rintro e w1 ⟨rfl, hg1⟩
  go_wp2_with fail
  go_ret
  exact ⟨rfl, gb_trans GE.out hg1⟩
set_option maxHeartbeats 1600000 in
theorem implBehind_yes (y : Na) (N : Nt) (k a q c m p j : Nat) (hf : Fit N k) (hn : NetSm N) (ha : a < k) (hq : q < 4) (hc : c < 2) (hch : hasChG N.W N.H N.br ((4 * a + q : Nat) : Int) = true) (hm : nextG N.W N.H a q = (m : Int)) (hmk : m < k) (hp : oppG (q : Int) = (p : Int)) (hp4 : p < 4) (hj : 10 * m + 2 * p + c = j) (w : World) (h : NetIn w w.heap.size y N) :
    Calls Try.prog 72 #[.agg #[.int .i64 N.W, .int .i64 N.H, .slice y.br.A N.br.length y.br.c, .slice y.ta.A N.ta.length y.ta.c, .slice y.tb.A N.tb.length y.tb.c, .slice y.bu.A N.bu.length y.bu.c, .slice y.ow.A N.ow.length y.ow.c, .slice y.tu.A N.tu.length y.tu.c, .slice y.so.A N.so.length y.so.c, .slice y.ar.A N.ar.length y.ar.c, .int .i64 N.ti], .int .i64 (a : Int), .int .i64 (q : Int), .int .i64 (c : Int)] w (RetI (j : Int) none w) := by
  have hk16 := hf.k16
  have hbr := hn.br
  have ge := gb_alloc (gb_refl w none) (.cells #[.int .i64 N.W, .int .i64 N.H, .slice y.br.A N.br.length y.br.c, .slice y.ta.A N.ta.length y.ta.c, .slice y.tb.A N.tb.length y.tb.c, .slice y.bu.A N.bu.length y.bu.c, .slice y.ow.A N.ow.length y.ow.c, .slice y.tu.A N.tu.length y.tu.c, .slice y.so.A N.so.length y.so.c, .slice y.ar.A N.ar.length y.ar.c, .int .i64 N.ti] 44)
  have hin := (h.none (Nat.le_refl _) ge).more ge.size
  have kb := Blk.new w 44 #[.int .i64 N.W, .int .i64 N.H, .slice y.br.A N.br.length y.br.c, .slice y.ta.A N.ta.length y.ta.c, .slice y.tb.A N.tb.length y.tb.c, .slice y.bu.A N.bu.length y.bu.c, .slice y.ow.A N.ow.length y.ow.c, .slice y.tu.A N.tu.length y.tu.c, .slice y.so.A N.so.length y.so.c, .slice y.ar.A N.ar.length y.ar.c, .int .i64 N.ti]
  obtain ⟨s0, hs0⟩ : ∃ s, 4 * a = s := ⟨_, rfl⟩
  obtain ⟨s1, hs1⟩ : ∃ s, 4 * a + q = s := ⟨_, rfl⟩
  have e1 : IntKind.i64.wrap (4 * (a : Int)) = (s0 : Int) := wrapN (by omega) (by omega)
  have e2 : IntKind.i64.wrap ((s0 : Int) + (q : Int)) = (s1 : Int) := wrapN (by omega) (by omega)
  have hcw : (Lit.int .i64 (s1 : Int)).wf = true := wf_nat (by omega)
  rw [hs1] at hch
  have HCN := Lib.hid (fun w' hh => implConnects N.W N.H y.br.A N.br.length y.br.c N.br (s1 : Int) true hcw hch w' hh hbr)
  have HNX := Lib.hid (fun w' => by have := implNextNode N.W N.H (a : Int) (q : Int) w'; rw [hm] at this; exact this)
  have HOP := Lib.hid (fun w' => by have := implOpposite (q : Int) w'; rw [hp] at this; exact this)
  have HB := Lib.hid (fun w' => implBufNat m p c j hj (by omega) (by omega) (by omega) w')
  have GE := Lib.hid ge
  have HIN := Lib.hid hin
  have KB := Lib.hid kb
  clear h hn hf ge hin hs0 hs1 hcw hch kb hm hp hj
  go_enter Try.func72, Try.ntmps72
  go_wp2_with fail
  refine (HCN.out _ HIN.out.br).mono ?_
  rintro e w1 ⟨rfl, hg1⟩
  have b0 : w1.cell? ⟨w.heap.size, 0, none⟩ = some (.int .i64 N.W) := (KB.out.grown hg1 (by simp)).cell 0
  have b1 : w1.cell? ⟨w.heap.size, 1, none⟩ = some (.int .i64 N.H) := (KB.out.grown hg1 (by simp)).cell 1
  have G1 := Lib.hid (gb_trans GE.out hg1)
  clear hg1
  go_wp2_with fail
  refine (HNX.out _).mono ?_
  rintro e w2 ⟨rfl, hg2⟩
  have G2 := Lib.hid (gb_trans G1.out hg2)
  clear hg2 b0 b1
  go_wp2_with fail
  refine (HOP.out _).mono ?_
  rintro e w3 ⟨rfl, hg3⟩
  have G3 := Lib.hid (gb_trans G2.out hg3)
  clear hg3
  go_wp2_with fail
  refine (HB.out _).mono ?_
  rintro e w4 ⟨rfl, hg4⟩
  have G4 := Lib.hid (gb_trans G3.out hg4)
  clear hg4
  go_wp2_with fail
  go_ret
  exact ⟨rfl, G4.out⟩
set_option maxHeartbeats 1600000 in
theorem implHasRoomU (y : Na) (N : Nt) (k a q c : Nat) (hf : Fit N k) (hn : NetSm N) (ha : a < k) (hq : q ≤ 4) (hc : c < 2) (w : World) (h : NetIn w w.heap.size y N) :
    Calls Try.prog 44 #[.agg #[.int .i64 N.W, .int .i64 N.H, .slice y.br.A N.br.length y.br.c, .slice y.ta.A N.ta.length y.ta.c, .slice y.tb.A N.tb.length y.tb.c, .slice y.bu.A N.bu.length y.bu.c, .slice y.ow.A N.ow.length y.ow.c, .slice y.tu.A N.tu.length y.tu.c, .slice y.so.A N.so.length y.so.c, .slice y.ar.A N.ar.length y.ar.c, .int .i64 N.ti], .int .i64 (a : Int), .int .i64 (q : Int), .int .i64 (c : Int)] w (RetB (roomG N a q c) w) := by
  have hk16 := hf.k16
  have ge := gb_alloc (gb_refl w none) (.cells #[.int .i64 N.W, .int .i64 N.H, .slice y.br.A N.br.length y.br.c, .slice y.ta.A N.ta.length y.ta.c, .slice y.tb.A N.tb.length y.tb.c, .slice y.bu.A N.bu.length y.bu.c, .slice y.ow.A N.ow.length y.ow.c, .slice y.tu.A N.tu.length y.tu.c, .slice y.so.A N.so.length y.so.c, .slice y.ar.A N.ar.length y.ar.c, .int .i64 N.ti] 44)
  have hin := (h.none (Nat.le_refl _) ge).more ge.size
  have kb := Blk.new w 44 #[.int .i64 N.W, .int .i64 N.H, .slice y.br.A N.br.length y.br.c, .slice y.ta.A N.ta.length y.ta.c, .slice y.tb.A N.tb.length y.tb.c, .slice y.bu.A N.bu.length y.bu.c, .slice y.ow.A N.ow.length y.ow.c, .slice y.tu.A N.tu.length y.tu.c, .slice y.so.A N.so.length y.so.c, .slice y.ar.A N.ar.length y.ar.c, .int .i64 N.ti]
  by_cases h4 : q = 4
  · have HR := Lib.hid (show roomG N a q c = true by rw [roomG, decide_eq_true h4]; rfl)
    have e1 : (q : Int) = 4 := by omega
    have GE := Lib.hid ge
    clear h hn hf ge hin kb
    go_enter Try.func44, Try.ntmps44
    go_wp2_with fail
    go_ret
    exact ⟨by rw [HR.out]; rfl, GE.out⟩
  have hq4 : q < 4 := by omega
  have hne : ¬ (q : Int) = 4 := by omega
  have hro : roomG N a q c = (hasChG N.W N.H N.br ((4 * a + q : Nat) : Int) && decide ((bufA N (10 * (nextG N.W N.H a q).toNat + 2 * (oppG q).toNat + c)).length < 3)) := by rw [roomG, decide_eq_false h4]; rfl
  cases hch : hasChG N.W N.H N.br ((4 * a + q : Nat) : Int) with
  | false =>
    have HBH := Lib.hid (fun w' hh => implBehind_no y N k a q c hf hn ha hq4 hc hch w' hh)
    have HR := Lib.hid (show roomG N a q c = false by rw [hro, hch]; rfl)
    have GE := Lib.hid ge
    have HIN := Lib.hid hin
    clear h hn hf ge hin kb hch hro
    go_enter Try.func44, Try.ntmps44
    go_wp2_with fail
    refine (HBH.out _ HIN.out).mono ?_
    rintro e w1 ⟨rfl, hg1⟩
    go_wp2_with fail
    go_ret
    exact ⟨by rw [HR.out]; rfl, gb_trans GE.out hg1⟩
  | true =>
    obtain ⟨m, hm, hmk⟩ := next_in hf.cnt hq4 hch
    obtain ⟨p, hp, hp4⟩ := opp_in hq4
    obtain ⟨j, hj⟩ : ∃ j, 10 * m + 2 * p + c = j := ⟨_, rfl⟩
    have hjl : j < N.bu.length := by rw [hf.bu]; omega
    have HBH := Lib.hid (fun w' hh => implBehind_yes y N k a q c m p j hf hn ha hq4 hc hch hm hmk hp hp4 hj w' hh)
    have HR := Lib.hid (show roomG N a q c = decide ((bufA N j).length < 3) by rw [hro, hch, hm, hp, ← hj]; rfl)
    have f0 : (0 : Int) ≤ (j : Int) := by omega
    have f1 : (j : Int) < (N.bu.length : Int) := by omega
    have GE := Lib.hid ge
    have HIN := Lib.hid hin
    have KB := Lib.hid kb
    have HJL := Lib.hid hjl
    clear h hn hf ge hin kb hch hro hm hp hj hjl
    go_enter Try.func44, Try.ntmps44
    go_wp2_with fail
    refine (HBH.out _ HIN.out).mono ?_
    rintro e w1 ⟨rfl, hg1⟩
    obtain ⟨sb, so, A', c', hA, hsb, hcell, _, _⟩ := buf_at ((HIN.out.none (Nat.le_refl _) hg1).more hg1.size) j HJL.out
    have a5 : w1.cell? ⟨w.heap.size, 5, none⟩ = some (.slice y.bu.A N.bu.length y.bu.c) := (KB.out.grown hg1 (by simp)).cell 5
    rw [hA] at a5
    obtain ⟨z, hz⟩ : ∃ z, (bufA N j).length = z := ⟨_, rfl⟩
    rw [hz] at hcell HR
    have G1 := Lib.hid (gb_trans GE.out hg1)
    clear hg1 hA hz
    by_cases hz3 : z < 3
    · have hz4 : (z : Int) < 3 := by omega
      have HR2 := Lib.hid (HR.out.trans (decide_eq_true hz3))
      clear hz3
      go_wp2_with fail
      go_ret
      exact ⟨by rw [HR2.out]; first | rfl | simp [hz4, go_sem], G1.out⟩
    · have hz4 : ¬ (z : Int) < 3 := by omega
      have HR2 := Lib.hid (HR.out.trans (decide_eq_false hz3))
      clear hz3
      go_wp2_with fail
      go_ret
      exact ⟨by rw [HR2.out]; first | rfl | simp [hz4, go_sem], G1.out⟩
end Go.Proofs.Ytplpdjpldadcmaa
end

section
namespace Go.Proofs.Ytplpdjpldadcmaa
open Go.ChangeShapes Go.WideShapes Go.ChangeAt Go.RowKit
set_option linter.unusedVariables false
set_option maxRecDepth 20000

theorem kind_yes (w : World) (pk tq cl : Int) (tl : Bool) : Calls Try.prog 60 #[.agg #[.int .i64 pk, .int .i64 tq, .int .i64 cl, .bool true, .bool tl]] w fun e w' => e = .returned (.agg #[.func (.func 80) #[] #[], .func (.func 81) #[] #[]]) ∧ w.grownBy w' none := implKindOf pk tq cl true tl w
theorem kind_no (w : World) (pk tq cl : Int) (tl : Bool) : Calls Try.prog 60 #[.agg #[.int .i64 pk, .int .i64 tq, .int .i64 cl, .bool false, .bool tl]] w fun e w' => e = .returned (.agg #[.func (.func 82) #[] #[], .func (.func 83) #[] #[]]) ∧ w.grownBy w' none := implKindOf pk tq cl false tl w
set_option maxHeartbeats 6400000 in
theorem implWantedU (y : Na) (N : Nt) (k a i p c : Nat) (hf : Fit N k) (ha : a < k) (hi : i < 10) (hp : i / 2 = p) (hc : i % 2 = c) (w : World) (h : NetIn w w.heap.size y N) :
    Calls Try.prog 34 #[.agg #[.int .i64 N.W, .int .i64 N.H, .slice y.br.A N.br.length y.br.c, .slice y.ta.A N.ta.length y.ta.c, .slice y.tb.A N.tb.length y.tb.c, .slice y.bu.A N.bu.length y.bu.c, .slice y.ow.A N.ow.length y.ow.c, .slice y.tu.A N.tu.length y.tu.c, .slice y.so.A N.so.length y.so.c, .slice y.ar.A N.ar.length y.ar.c, .int .i64 N.ti], .agg #[.int .i64 (a : Int), .int .i64 (p : Int), .int .i64 (c : Int)]] w (RetI (wantG N a i) none w) := by
  have hk16 := hf.k16
  have hbl : N.bu.length ≤ 1000000 := by rw [hf.bu]; omega
  have hjl : 10 * a + i < N.bu.length := by rw [hf.bu]; omega
  obtain ⟨sb, so, A', c', hA, hsb, hcell, hrd, hDj⟩ := buf_at h (10 * a + i) hjl
  have ge := gb_alloc (gb_alloc (gb_refl w none) (.cells #[.int .i64 N.W, .int .i64 N.H, .slice y.br.A N.br.length y.br.c, .slice y.ta.A N.ta.length y.ta.c, .slice y.tb.A N.tb.length y.tb.c, .slice y.bu.A N.bu.length y.bu.c, .slice y.ow.A N.ow.length y.ow.c, .slice y.tu.A N.tu.length y.tu.c, .slice y.so.A N.so.length y.so.c, .slice y.ar.A N.ar.length y.ar.c, .int .i64 N.ti] 44)) (.cells #[.int .i64 (a : Int), .int .i64 (p : Int), .int .i64 (c : Int)] 66)
  have kn := (Blk.new w 44 #[.int .i64 N.W, .int .i64 N.H, .slice y.br.A N.br.length y.br.c, .slice y.ta.A N.ta.length y.ta.c, .slice y.tb.A N.tb.length y.tb.c, .slice y.bu.A N.bu.length y.bu.c, .slice y.ow.A N.ow.length y.ow.c, .slice y.tu.A N.tu.length y.tu.c, .slice y.so.A N.so.length y.so.c, .slice y.ar.A N.ar.length y.ar.c, .int .i64 N.ti]).alloc (.cells #[.int .i64 (a : Int), .int .i64 (p : Int), .int .i64 (c : Int)] 66)
  have ki := Blk.new (w.alloc (.cells #[.int .i64 N.W, .int .i64 N.H, .slice y.br.A N.br.length y.br.c, .slice y.ta.A N.ta.length y.ta.c, .slice y.tb.A N.tb.length y.tb.c, .slice y.bu.A N.bu.length y.bu.c, .slice y.ow.A N.ow.length y.ow.c, .slice y.tu.A N.tu.length y.tu.c, .slice y.so.A N.so.length y.so.c, .slice y.ar.A N.ar.length y.ar.c, .int .i64 N.ti] 44)) 66 #[.int .i64 (a : Int), .int .i64 (p : Int), .int .i64 (c : Int)]
  simp only [alloc_size] at ki
  have hsv : ((w.alloc (.cells #[.int .i64 N.W, .int .i64 N.H, .slice y.br.A N.br.length y.br.c, .slice y.ta.A N.ta.length y.ta.c, .slice y.tb.A N.tb.length y.tb.c, .slice y.bu.A N.bu.length y.bu.c, .slice y.ow.A N.ow.length y.ow.c, .slice y.tu.A N.tu.length y.tu.c, .slice y.so.A N.so.length y.so.c, .slice y.ar.A N.ar.length y.ar.c, .int .i64 N.ti] 44)).alloc (.cells #[.int .i64 (a : Int), .int .i64 (p : Int), .int .i64 (c : Int)] 66)).heap.size = w.heap.size + 2 := by simp only [alloc_size]
  have HWT := Lib.hid (fun w' (hg : w.grownBy w' none) => implWaiting y N a p c (10 * a + i) sb so _ c' A' (by omega) (by omega) (by omega) (by omega) hA hjl hbl w' (hg.cell hcell (by simp)))
  have hw : wantG N a i = wantL N a i (bufA N (10 * a + i)) := rfl
  obtain ⟨r, hr⟩ : ∃ r, wantG N a i = r := ⟨_, rfl⟩
  rw [hr] at hw ⊢
  cases hD : bufA N (10 * a + i) with
  | nil =>
    rw [hD] at HWT hw
    have HR := Lib.hid (show r = -1 from hw)
    have GE := Lib.hid ge
    clear hf h ge kn ki hsv hcell hrd hDj hA hD hw hr
    go_enter Try.func34, Try.ntmps34
    go_wp2_with fail
    refine (HWT.out _ GE.out).mono ?_
    rintro e w1 ⟨rfl, hg1⟩
    go_wp2_with fail
    go_ret
    exact ⟨by rw [HR.out]; rfl, gb_trans GE.out hg1⟩
  | cons x tl =>
    rw [hD] at HWT hw hcell hrd hDj
    obtain ⟨xb, xo, x', rfl, hxb, hx', hxc⟩ := hrd.at 0 (by simp)
    obtain rfl : x = x' := by simpa using hx'
    obtain ⟨x0, x1, x2, x3, x4⟩ := flt_five hxc
    simp only [Nat.zero_mul, Nat.add_zero] at x0 x1 x2 x3 x4
    obtain ⟨m, hm⟩ : ∃ m, (x :: tl).length = m := ⟨_, rfl⟩
    have hm0 : 0 < m := by rw [← hm]; simp
    have hm1 : ¬ (m : Int) = 0 := by omega
    have hm2 : (0 : Int) < (m : Int) := by omega
    rw [hm] at HWT
    cases hhd : x.hd with
    | true =>
      rw [hhd] at x3
      have HTP : Hid (∀ w', w.grownBy w' none → Calls Try.prog 80 #[.agg #[.int .i64 N.W, .int .i64 N.H, .slice y.br.A N.br.length y.br.c, .slice y.ta.A N.ta.length y.ta.c, .slice y.tb.A N.tb.length y.tb.c, .slice y.bu.A N.bu.length y.bu.c, .slice y.ow.A N.ow.length y.ow.c, .slice y.tu.A N.tu.length y.tu.c, .slice y.so.A N.so.length y.so.c, .slice y.ar.A N.ar.length y.ar.c, .int .i64 N.ti], .agg #[.int .i64 (a : Int), .int .i64 (p : Int), .int .i64 (c : Int)]] w' (RetI r none w')) := Lib.hid (fun w' hg => by
        have h1 := implTablePort y N k a i p c x tl hf ha hi hp hc hD w' ((h.none (Nat.le_refl _) hg).more hg.size)
        rw [hw, wantL, if_pos hhd]
        exact h1)
      have KP := Lib.hid (fun w' (hg : w.grownBy w' none) (hn : Blk w' w.heap.size 44 #[.int .i64 N.W, .int .i64 N.H, .slice y.br.A N.br.length y.br.c, .slice y.ta.A N.ta.length y.ta.c, .slice y.tb.A N.tb.length y.tb.c, .slice y.bu.A N.bu.length y.bu.c, .slice y.ow.A N.ow.length y.ow.c, .slice y.tu.A N.tu.length y.tu.c, .slice y.so.A N.so.length y.so.c, .slice y.ar.A N.ar.length y.ar.c, .int .i64 N.ti]) (hi : Blk w' (w.heap.size + 1) 66 #[.int .i64 (a : Int), .int .i64 (p : Int), .int .i64 (c : Int)]) => (show w'.cell? ⟨w.heap.size, 0, none⟩ = some (.int .i64 N.W) ∧ w'.cell? ⟨w.heap.size, 1, none⟩ = some (.int .i64 N.H) ∧ w'.cell? ⟨w.heap.size, 2, none⟩ = some (.slice y.br.A N.br.length y.br.c) ∧ w'.cell? ⟨w.heap.size, 3, none⟩ = some (.slice y.ta.A N.ta.length y.ta.c) ∧ w'.cell? ⟨w.heap.size, 4, none⟩ = some (.slice y.tb.A N.tb.length y.tb.c) ∧ w'.cell? ⟨w.heap.size, 5, none⟩ = some (.slice y.bu.A N.bu.length y.bu.c) ∧ w'.cell? ⟨w.heap.size, 6, none⟩ = some (.slice y.ow.A N.ow.length y.ow.c) ∧ w'.cell? ⟨w.heap.size, 7, none⟩ = some (.slice y.tu.A N.tu.length y.tu.c) ∧ w'.cell? ⟨w.heap.size, 8, none⟩ = some (.slice y.so.A N.so.length y.so.c) ∧ w'.cell? ⟨w.heap.size, 9, none⟩ = some (.slice y.ar.A N.ar.length y.ar.c) ∧ w'.cell? ⟨w.heap.size, 10, none⟩ = some (.int .i64 N.ti) ∧ w'.cell? ⟨w.heap.size + 1, 0, none⟩ = some (.int .i64 (a : Int)) ∧ w'.cell? ⟨w.heap.size + 1, 1, none⟩ = some (.int .i64 (p : Int)) ∧ w'.cell? ⟨w.heap.size + 1, 2, none⟩ = some (.int .i64 (c : Int)) ∧ w'.cell? ⟨xb, xo, none⟩ = some (.int .i64 x.pk) ∧ w'.cell? ⟨xb, xo + 1, none⟩ = some (.int .i64 x.to) ∧ w'.cell? ⟨xb, xo + 2, none⟩ = some (.int .i64 x.cl) ∧ w'.cell? ⟨xb, xo + 3, none⟩ = some (.bool true) ∧ w'.cell? ⟨xb, xo + 4, none⟩ = some (.bool x.tl) from ⟨hn.cell 0, hn.cell 1, hn.cell 2, hn.cell 3, hn.cell 4, hn.cell 5, hn.cell 6, hn.cell 7, hn.cell 8, hn.cell 9, hn.cell 10, hi.cell 0, hi.cell 1, hi.cell 2, hg.cell x0 (by simp), hg.cell x1 (by simp), hg.cell x2 (by simp), hg.cell x3 (by simp), hg.cell x4 (by simp)⟩))
      have GE := Lib.hid ge
      have KN := Lib.hid kn
      have KI := Lib.hid ki
      have hfld : ∀ (w : World), (Instr.field 94 (.agg #[.func (.func 80) #[] #[], .func (.func 81) #[] #[]]) 0).run Try.prog w = .ok (.func (.func 80) #[] #[]) w := fun w => by kernel_rfl
      clear hf h ge kn ki hsv hcell hrd hDj hA hD hw hr hx' hxc x0 x1 x2 x3 x4 hm
      go_enter Try.func34, Try.ntmps34
      go_wp2_with fail
      refine (HWT.out _ GE.out).mono ?_
      rintro e w1 ⟨rfl, hg1⟩
      have KQ := Lib.hid (fun w' (hg : w1.grownBy w' none) => KP.out w' (gb_trans (gb_trans GE.out hg1) hg) ((KN.out.grown hg1 (by simp)).grown hg (by simp)) ((KI.out.grown hg1 (by simp)).grown hg (by simp)))
      have T0 := Lib.hid (gb_refl w1 none)
      have G1 := Lib.hid (gb_trans GE.out hg1)
      clear hg1
      go_wp2_with fail
      go_region_held3 (fun w' => w'.cell? ⟨w.heap.size, 0, none⟩ = some (.int .i64 N.W) ∧ w'.cell? ⟨w.heap.size, 1, none⟩ = some (.int .i64 N.H) ∧ w'.cell? ⟨w.heap.size, 2, none⟩ = some (.slice y.br.A N.br.length y.br.c) ∧ w'.cell? ⟨w.heap.size, 3, none⟩ = some (.slice y.ta.A N.ta.length y.ta.c) ∧ w'.cell? ⟨w.heap.size, 4, none⟩ = some (.slice y.tb.A N.tb.length y.tb.c) ∧ w'.cell? ⟨w.heap.size, 5, none⟩ = some (.slice y.bu.A N.bu.length y.bu.c) ∧ w'.cell? ⟨w.heap.size, 6, none⟩ = some (.slice y.ow.A N.ow.length y.ow.c) ∧ w'.cell? ⟨w.heap.size, 7, none⟩ = some (.slice y.tu.A N.tu.length y.tu.c) ∧ w'.cell? ⟨w.heap.size, 8, none⟩ = some (.slice y.so.A N.so.length y.so.c) ∧ w'.cell? ⟨w.heap.size, 9, none⟩ = some (.slice y.ar.A N.ar.length y.ar.c) ∧ w'.cell? ⟨w.heap.size, 10, none⟩ = some (.int .i64 N.ti) ∧ w'.cell? ⟨w.heap.size + 1, 0, none⟩ = some (.int .i64 (a : Int)) ∧ w'.cell? ⟨w.heap.size + 1, 1, none⟩ = some (.int .i64 (p : Int)) ∧ w'.cell? ⟨w.heap.size + 1, 2, none⟩ = some (.int .i64 (c : Int)) ∧ w'.cell? ⟨xb, xo, none⟩ = some (.int .i64 x.pk) ∧ w'.cell? ⟨xb, xo + 1, none⟩ = some (.int .i64 x.to) ∧ w'.cell? ⟨xb, xo + 2, none⟩ = some (.int .i64 x.cl) ∧ w'.cell? ⟨xb, xo + 3, none⟩ = some (.bool true) ∧ w'.cell? ⟨xb, xo + 4, none⟩ = some (.bool x.tl))
        (first | with_reducible exact KQ.out _ (gb_drew T0.out) | with_reducible exact KQ.out _ T5.out | with_reducible exact KQ.out _ T6.out | fail)
        (first
          | (go_at_call 60; (with_reducible refine (kind_yes _ _ _ _ _).mono ?_); rintro e w5 ⟨rfl, hg⟩; have T5 := Lib.hid (gb_trans (gb_drew T0.out) hg); clear hg)
          | (go_at_call 80; (with_reducible refine (HTP.out _ (gb_trans G1.out T5.out)).mono ?_); rintro e w6 ⟨rfl, hg⟩; have T6 := Lib.hid (gb_trans T5.out hg); clear hg)
          | fail)
      all_goals
        go_wp2_with fail
        go_ret
        exact ⟨rfl, gb_trans G1.out T6.out⟩
    | false =>
      rw [hhd] at x3
      have HTP : Hid (∀ w', w.grownBy w' none → Calls Try.prog 82 #[.agg #[.int .i64 N.W, .int .i64 N.H, .slice y.br.A N.br.length y.br.c, .slice y.ta.A N.ta.length y.ta.c, .slice y.tb.A N.tb.length y.tb.c, .slice y.bu.A N.bu.length y.bu.c, .slice y.ow.A N.ow.length y.ow.c, .slice y.tu.A N.tu.length y.tu.c, .slice y.so.A N.so.length y.so.c, .slice y.ar.A N.ar.length y.ar.c, .int .i64 N.ti], .agg #[.int .i64 (a : Int), .int .i64 (p : Int), .int .i64 (c : Int)]] w' (RetI r none w')) := Lib.hid (fun w' hg => by
        have h1 := implOwnedPort y N k a i p c hf ha hi hp hc w' ((h.none (Nat.le_refl _) hg).more hg.size)
        rw [hw, wantL, if_neg (by rw [hhd]; decide)]
        exact h1)
      have KP := Lib.hid (fun w' (hg : w.grownBy w' none) (hn : Blk w' w.heap.size 44 #[.int .i64 N.W, .int .i64 N.H, .slice y.br.A N.br.length y.br.c, .slice y.ta.A N.ta.length y.ta.c, .slice y.tb.A N.tb.length y.tb.c, .slice y.bu.A N.bu.length y.bu.c, .slice y.ow.A N.ow.length y.ow.c, .slice y.tu.A N.tu.length y.tu.c, .slice y.so.A N.so.length y.so.c, .slice y.ar.A N.ar.length y.ar.c, .int .i64 N.ti]) (hi : Blk w' (w.heap.size + 1) 66 #[.int .i64 (a : Int), .int .i64 (p : Int), .int .i64 (c : Int)]) => (show w'.cell? ⟨w.heap.size, 0, none⟩ = some (.int .i64 N.W) ∧ w'.cell? ⟨w.heap.size, 1, none⟩ = some (.int .i64 N.H) ∧ w'.cell? ⟨w.heap.size, 2, none⟩ = some (.slice y.br.A N.br.length y.br.c) ∧ w'.cell? ⟨w.heap.size, 3, none⟩ = some (.slice y.ta.A N.ta.length y.ta.c) ∧ w'.cell? ⟨w.heap.size, 4, none⟩ = some (.slice y.tb.A N.tb.length y.tb.c) ∧ w'.cell? ⟨w.heap.size, 5, none⟩ = some (.slice y.bu.A N.bu.length y.bu.c) ∧ w'.cell? ⟨w.heap.size, 6, none⟩ = some (.slice y.ow.A N.ow.length y.ow.c) ∧ w'.cell? ⟨w.heap.size, 7, none⟩ = some (.slice y.tu.A N.tu.length y.tu.c) ∧ w'.cell? ⟨w.heap.size, 8, none⟩ = some (.slice y.so.A N.so.length y.so.c) ∧ w'.cell? ⟨w.heap.size, 9, none⟩ = some (.slice y.ar.A N.ar.length y.ar.c) ∧ w'.cell? ⟨w.heap.size, 10, none⟩ = some (.int .i64 N.ti) ∧ w'.cell? ⟨w.heap.size + 1, 0, none⟩ = some (.int .i64 (a : Int)) ∧ w'.cell? ⟨w.heap.size + 1, 1, none⟩ = some (.int .i64 (p : Int)) ∧ w'.cell? ⟨w.heap.size + 1, 2, none⟩ = some (.int .i64 (c : Int)) ∧ w'.cell? ⟨xb, xo, none⟩ = some (.int .i64 x.pk) ∧ w'.cell? ⟨xb, xo + 1, none⟩ = some (.int .i64 x.to) ∧ w'.cell? ⟨xb, xo + 2, none⟩ = some (.int .i64 x.cl) ∧ w'.cell? ⟨xb, xo + 3, none⟩ = some (.bool false) ∧ w'.cell? ⟨xb, xo + 4, none⟩ = some (.bool x.tl) from ⟨hn.cell 0, hn.cell 1, hn.cell 2, hn.cell 3, hn.cell 4, hn.cell 5, hn.cell 6, hn.cell 7, hn.cell 8, hn.cell 9, hn.cell 10, hi.cell 0, hi.cell 1, hi.cell 2, hg.cell x0 (by simp), hg.cell x1 (by simp), hg.cell x2 (by simp), hg.cell x3 (by simp), hg.cell x4 (by simp)⟩))
      have GE := Lib.hid ge
      have KN := Lib.hid kn
      have KI := Lib.hid ki
      have hfld : ∀ (w : World), (Instr.field 94 (.agg #[.func (.func 82) #[] #[], .func (.func 83) #[] #[]]) 0).run Try.prog w = .ok (.func (.func 82) #[] #[]) w := fun w => by kernel_rfl
      clear hf h ge kn ki hsv hcell hrd hDj hA hD hw hr hx' hxc x0 x1 x2 x3 x4 hm
      go_enter Try.func34, Try.ntmps34
      go_wp2_with fail
      refine (HWT.out _ GE.out).mono ?_
      rintro e w1 ⟨rfl, hg1⟩
      have KQ := Lib.hid (fun w' (hg : w1.grownBy w' none) => KP.out w' (gb_trans (gb_trans GE.out hg1) hg) ((KN.out.grown hg1 (by simp)).grown hg (by simp)) ((KI.out.grown hg1 (by simp)).grown hg (by simp)))
      have T0 := Lib.hid (gb_refl w1 none)
      have G1 := Lib.hid (gb_trans GE.out hg1)
      clear hg1
      go_wp2_with fail
      go_region_held3 (fun w' => w'.cell? ⟨w.heap.size, 0, none⟩ = some (.int .i64 N.W) ∧ w'.cell? ⟨w.heap.size, 1, none⟩ = some (.int .i64 N.H) ∧ w'.cell? ⟨w.heap.size, 2, none⟩ = some (.slice y.br.A N.br.length y.br.c) ∧ w'.cell? ⟨w.heap.size, 3, none⟩ = some (.slice y.ta.A N.ta.length y.ta.c) ∧ w'.cell? ⟨w.heap.size, 4, none⟩ = some (.slice y.tb.A N.tb.length y.tb.c) ∧ w'.cell? ⟨w.heap.size, 5, none⟩ = some (.slice y.bu.A N.bu.length y.bu.c) ∧ w'.cell? ⟨w.heap.size, 6, none⟩ = some (.slice y.ow.A N.ow.length y.ow.c) ∧ w'.cell? ⟨w.heap.size, 7, none⟩ = some (.slice y.tu.A N.tu.length y.tu.c) ∧ w'.cell? ⟨w.heap.size, 8, none⟩ = some (.slice y.so.A N.so.length y.so.c) ∧ w'.cell? ⟨w.heap.size, 9, none⟩ = some (.slice y.ar.A N.ar.length y.ar.c) ∧ w'.cell? ⟨w.heap.size, 10, none⟩ = some (.int .i64 N.ti) ∧ w'.cell? ⟨w.heap.size + 1, 0, none⟩ = some (.int .i64 (a : Int)) ∧ w'.cell? ⟨w.heap.size + 1, 1, none⟩ = some (.int .i64 (p : Int)) ∧ w'.cell? ⟨w.heap.size + 1, 2, none⟩ = some (.int .i64 (c : Int)) ∧ w'.cell? ⟨xb, xo, none⟩ = some (.int .i64 x.pk) ∧ w'.cell? ⟨xb, xo + 1, none⟩ = some (.int .i64 x.to) ∧ w'.cell? ⟨xb, xo + 2, none⟩ = some (.int .i64 x.cl) ∧ w'.cell? ⟨xb, xo + 3, none⟩ = some (.bool false) ∧ w'.cell? ⟨xb, xo + 4, none⟩ = some (.bool x.tl))
        (first | with_reducible exact KQ.out _ (gb_drew T0.out) | with_reducible exact KQ.out _ T5.out | with_reducible exact KQ.out _ T6.out | fail)
        (first
          | (go_at_call 60; (with_reducible refine (kind_no _ _ _ _ _).mono ?_); rintro e w5 ⟨rfl, hg⟩; have T5 := Lib.hid (gb_trans (gb_drew T0.out) hg); clear hg)
          | (go_at_call 82; (with_reducible refine (HTP.out _ (gb_trans G1.out T5.out)).mono ?_); rintro e w6 ⟨rfl, hg⟩; have T6 := Lib.hid (gb_trans T5.out hg); clear hg)
          | fail)
      all_goals
        go_wp2_with fail
        go_ret
        exact ⟨rfl, gb_trans G1.out T6.out⟩
end Go.Proofs.Ytplpdjpldadcmaa
end

section
namespace Go.Proofs.Ytplpdjpldadcmaa
open Go.ChangeShapes Go.WideShapes Go.ChangeAt Go.RowKit
set_option linter.unusedVariables false
set_option maxRecDepth 20000

set_option maxHeartbeats 6400000 in
theorem implIsReqU (y : Na) (N : Nt) (k a i p c : Nat) (q : Int) (hf : Fit N k) (hn : NetSm N) (ha : a < k) (hi : i < 10) (hp : i / 2 = p) (hc : i % 2 = c) (hw4 : wantG N a i ≤ 4) (w : World) (h : NetIn w w.heap.size y N) :
    Calls Try.prog 46 #[.agg #[.int .i64 N.W, .int .i64 N.H, .slice y.br.A N.br.length y.br.c, .slice y.ta.A N.ta.length y.ta.c, .slice y.tb.A N.tb.length y.tb.c, .slice y.bu.A N.bu.length y.bu.c, .slice y.ow.A N.ow.length y.ow.c, .slice y.tu.A N.tu.length y.tu.c, .slice y.so.A N.so.length y.so.c, .slice y.ar.A N.ar.length y.ar.c, .int .i64 N.ti], .agg #[.int .i64 (a : Int), .int .i64 (p : Int), .int .i64 (c : Int)], .int .i64 q] w (RetB (decide (0 ≤ q) && reqG N a i q.toNat) w) := by
  have hk16 := hf.k16
  have hbl : N.bu.length ≤ 1000000 := by rw [hf.bu]; omega
  have hjl : 10 * a + i < N.bu.length := by rw [hf.bu]; omega
  have ge := gb_alloc (gb_alloc (gb_refl w none) (.cells #[.int .i64 N.W, .int .i64 N.H, .slice y.br.A N.br.length y.br.c, .slice y.ta.A N.ta.length y.ta.c, .slice y.tb.A N.tb.length y.tb.c, .slice y.bu.A N.bu.length y.bu.c, .slice y.ow.A N.ow.length y.ow.c, .slice y.tu.A N.tu.length y.tu.c, .slice y.so.A N.so.length y.so.c, .slice y.ar.A N.ar.length y.ar.c, .int .i64 N.ti] 44)) (.cells #[.int .i64 (a : Int), .int .i64 (p : Int), .int .i64 (c : Int)] 66)
  have kn := (Blk.new w 44 #[.int .i64 N.W, .int .i64 N.H, .slice y.br.A N.br.length y.br.c, .slice y.ta.A N.ta.length y.ta.c, .slice y.tb.A N.tb.length y.tb.c, .slice y.bu.A N.bu.length y.bu.c, .slice y.ow.A N.ow.length y.ow.c, .slice y.tu.A N.tu.length y.tu.c, .slice y.so.A N.so.length y.so.c, .slice y.ar.A N.ar.length y.ar.c, .int .i64 N.ti]).alloc (.cells #[.int .i64 (a : Int), .int .i64 (p : Int), .int .i64 (c : Int)] 66)
  have ki := Blk.new (w.alloc (.cells #[.int .i64 N.W, .int .i64 N.H, .slice y.br.A N.br.length y.br.c, .slice y.ta.A N.ta.length y.ta.c, .slice y.tb.A N.tb.length y.tb.c, .slice y.bu.A N.bu.length y.bu.c, .slice y.ow.A N.ow.length y.ow.c, .slice y.tu.A N.tu.length y.tu.c, .slice y.so.A N.so.length y.so.c, .slice y.ar.A N.ar.length y.ar.c, .int .i64 N.ti] 44)) 66 #[.int .i64 (a : Int), .int .i64 (p : Int), .int .i64 (c : Int)]
  simp only [alloc_size] at ki
  have hsv : ((w.alloc (.cells #[.int .i64 N.W, .int .i64 N.H, .slice y.br.A N.br.length y.br.c, .slice y.ta.A N.ta.length y.ta.c, .slice y.tb.A N.tb.length y.tb.c, .slice y.bu.A N.bu.length y.bu.c, .slice y.ow.A N.ow.length y.ow.c, .slice y.tu.A N.tu.length y.tu.c, .slice y.so.A N.so.length y.so.c, .slice y.ar.A N.ar.length y.ar.c, .int .i64 N.ti] 44)).alloc (.cells #[.int .i64 (a : Int), .int .i64 (p : Int), .int .i64 (c : Int)] 66)).heap.size = w.heap.size + 2 := by simp only [alloc_size]
  have hWA := fun w' (hg : w.grownBy w' none) => implWantedU y N k a i p c hf ha hi hp hc w' ((h.none (Nat.le_refl _) hg).more hg.size)
  have GE := Lib.hid ge
  have KN := Lib.hid kn
  have KI := Lib.hid ki
  obtain ⟨v, hv⟩ : ∃ v, wantG N a i = v := ⟨_, rfl⟩
  rw [hv] at hWA hw4
  have HWA := Lib.hid hWA
  clear hWA ge kn ki hsv
  by_cases hq0 : q < 0
  · have HR := Lib.hid (show (decide (0 ≤ q) && reqG N a i q.toNat) = false by rw [decide_eq_false (by omega)]; rfl)
    clear hf hn h hv HWA
    rw [HR.out]
    go_enter Try.func46, Try.ntmps46
    go_wp2_with fail
    go_ret
    exact ⟨rfl, GE.out⟩
  by_cases hvq : v = q
  rotate_left
  · have HR := Lib.hid (show (decide (0 ≤ q) && reqG N a i q.toNat) = false by rw [decide_eq_true (by omega), reqG, hv, decide_eq_false (by omega)]; rfl)
    clear hf hn h hv
    rw [HR.out]
    go_enter Try.func46, Try.ntmps46
    go_wp2_with fail
    refine (HWA.out _ GE.out).mono ?_
    rintro e w1 ⟨rfl, hg1⟩
    go_wp2_with fail
    go_ret
    exact ⟨rfl, gb_trans GE.out hg1⟩
  subst hvq
  obtain ⟨q, rfl⟩ : ∃ q : Nat, v = (q : Int) := ⟨v.toNat, by omega⟩
  have hq4 : q ≤ 4 := by omega
  have hro := fun w' (hg : w.grownBy w' none) => implHasRoomU y N k a q c hf hn ha hq4 (by omega) w' ((h.none (Nat.le_refl _) hg).more hg.size)
  obtain ⟨r, hr⟩ : ∃ r, roomG N a q c = r := ⟨_, rfl⟩
  rw [hr] at hro
  have HRO := Lib.hid hro
  have hrq : (decide (0 ≤ (q : Int)) && reqG N a i (q : Int).toNat) = (r && ownR N a i q) := by rw [decide_eq_true (by omega), Int.toNat_natCast, reqG, hv, decide_eq_true rfl, hc, hr]; rfl
  rw [hrq]
  clear hro hrq
  cases r with
  | false =>
    clear hf hn h hv hr
    go_enter Try.func46, Try.ntmps46
    go_wp2_with fail
    refine (HWA.out _ GE.out).mono ?_
    rintro e w1 ⟨rfl, hg1⟩
    have K1 := KN.out.grown hg1 (by simp)
    have K2 := KI.out.grown hg1 (by simp)
    have b0 : w1.cell? ⟨w.heap.size, 0, none⟩ = some (.int .i64 N.W) := K1.cell 0
    have b1 : w1.cell? ⟨w.heap.size, 1, none⟩ = some (.int .i64 N.H) := K1.cell 1
    have b2 : w1.cell? ⟨w.heap.size, 2, none⟩ = some (.slice y.br.A N.br.length y.br.c) := K1.cell 2
    have b3 : w1.cell? ⟨w.heap.size, 3, none⟩ = some (.slice y.ta.A N.ta.length y.ta.c) := K1.cell 3
    have b4 : w1.cell? ⟨w.heap.size, 4, none⟩ = some (.slice y.tb.A N.tb.length y.tb.c) := K1.cell 4
    have b5 : w1.cell? ⟨w.heap.size, 5, none⟩ = some (.slice y.bu.A N.bu.length y.bu.c) := K1.cell 5
    have b6 : w1.cell? ⟨w.heap.size, 6, none⟩ = some (.slice y.ow.A N.ow.length y.ow.c) := K1.cell 6
    have b7 : w1.cell? ⟨w.heap.size, 7, none⟩ = some (.slice y.tu.A N.tu.length y.tu.c) := K1.cell 7
    have b8 : w1.cell? ⟨w.heap.size, 8, none⟩ = some (.slice y.so.A N.so.length y.so.c) := K1.cell 8
    have b9 : w1.cell? ⟨w.heap.size, 9, none⟩ = some (.slice y.ar.A N.ar.length y.ar.c) := K1.cell 9
    have b10 : w1.cell? ⟨w.heap.size, 10, none⟩ = some (.int .i64 N.ti) := K1.cell 10
    have i0 : w1.cell? ⟨w.heap.size + 1, 0, none⟩ = some (.int .i64 (a : Int)) := K2.cell 0
    have i1 : w1.cell? ⟨w.heap.size + 1, 1, none⟩ = some (.int .i64 (p : Int)) := K2.cell 1
    have i2 : w1.cell? ⟨w.heap.size + 1, 2, none⟩ = some (.int .i64 (c : Int)) := K2.cell 2
    have G1 := Lib.hid (gb_trans GE.out hg1)
    clear hg1 K1 K2
    go_wp2_with fail
    refine (HRO.out _ G1.out).mono ?_
    rintro e w2 ⟨rfl, hg2⟩
    go_wp2_with fail
    go_ret
    exact ⟨rfl, gb_trans G1.out hg2⟩
  | true =>
    obtain ⟨sb, so, A', c', hA, hsb, hcell, hrd, hDj⟩ := buf_at h (10 * a + i) hjl
    have HWT := Lib.hid (fun w' (hg : w.grownBy w' none) => implWaiting y N a p c (10 * a + i) sb so _ c' A' (by omega) (by omega) (by omega) (by omega) hA hjl hbl w' (hg.cell hcell (by simp)))
    have hor : ownR N a i q = decide (N.ow.getD (10 * a + 2 * q + c) (-2) = if headL (bufA N (10 * a + i)) = true then -1 else (p : Int)) := by rw [ownR, hc, hp]
    have hF := fun w' (hg : w.grownBy w' none) => implIsFree y N a p c q _ _ rfl (by omega) (by omega) (by omega) (by rw [hf.ow]; omega) rfl w' ((h.none (Nat.le_refl _) hg).more hg.size)
    have hO := fun w' (hg : w.grownBy w' none) => implIsOwnedZ y N a p c q _ _ rfl (by omega) (by omega) (by omega) (by rw [hf.ow]; omega) rfl w' ((h.none (Nat.le_refl _) hg).more hg.size)
    obtain ⟨z, hz⟩ : ∃ z, N.ow.getD (10 * a + 2 * q + c) (-2) = z := ⟨_, rfl⟩
    rw [hz] at hor hF hO
    cases hD : bufA N (10 * a + i) with
    | nil => exfalso; rw [wantG, hD] at hv; simp only [wantL] at hv; omega
    | cons x tl =>
    rw [hD] at HWT hcell hrd hDj hor
    obtain ⟨xb, xo, x', rfl, hxb, hx', hxc⟩ := hrd.at 0 (by simp)
    obtain rfl : x = x' := by simpa using hx'
    obtain ⟨x0, x1, x2, x3, x4⟩ := flt_five hxc
    simp only [Nat.zero_mul, Nat.add_zero] at x0 x1 x2 x3 x4
    obtain ⟨m, hm⟩ : ∃ m, (x :: tl).length = m := ⟨_, rfl⟩
    have hm0 : 0 < m := by rw [← hm]; simp
    have hm2 : (0 : Int) < (m : Int) := by omega
    rw [hm] at HWT
    have hhl : headL (x :: tl) = x.hd := rfl
    rw [hhl] at hor
    cases hhd : x.hd with
    | true =>
      rw [hhd] at x3 hor
      have hor2 : ownR N a i q = (z == -1) := by rw [hor]; exact Bool.eq_iff_iff.2 (by rw [beq_iff_eq, decide_eq_true_eq]; simp)
      rw [Bool.true_and, hor2]
      have HTP := Lib.hid hF
      have KP := Lib.hid (fun w' (hg : w.grownBy w' none) (hn : Blk w' w.heap.size 44 #[.int .i64 N.W, .int .i64 N.H, .slice y.br.A N.br.length y.br.c, .slice y.ta.A N.ta.length y.ta.c, .slice y.tb.A N.tb.length y.tb.c, .slice y.bu.A N.bu.length y.bu.c, .slice y.ow.A N.ow.length y.ow.c, .slice y.tu.A N.tu.length y.tu.c, .slice y.so.A N.so.length y.so.c, .slice y.ar.A N.ar.length y.ar.c, .int .i64 N.ti]) (hi : Blk w' (w.heap.size + 1) 66 #[.int .i64 (a : Int), .int .i64 (p : Int), .int .i64 (c : Int)]) => (show w'.cell? ⟨w.heap.size, 0, none⟩ = some (.int .i64 N.W) ∧ w'.cell? ⟨w.heap.size, 1, none⟩ = some (.int .i64 N.H) ∧ w'.cell? ⟨w.heap.size, 2, none⟩ = some (.slice y.br.A N.br.length y.br.c) ∧ w'.cell? ⟨w.heap.size, 3, none⟩ = some (.slice y.ta.A N.ta.length y.ta.c) ∧ w'.cell? ⟨w.heap.size, 4, none⟩ = some (.slice y.tb.A N.tb.length y.tb.c) ∧ w'.cell? ⟨w.heap.size, 5, none⟩ = some (.slice y.bu.A N.bu.length y.bu.c) ∧ w'.cell? ⟨w.heap.size, 6, none⟩ = some (.slice y.ow.A N.ow.length y.ow.c) ∧ w'.cell? ⟨w.heap.size, 7, none⟩ = some (.slice y.tu.A N.tu.length y.tu.c) ∧ w'.cell? ⟨w.heap.size, 8, none⟩ = some (.slice y.so.A N.so.length y.so.c) ∧ w'.cell? ⟨w.heap.size, 9, none⟩ = some (.slice y.ar.A N.ar.length y.ar.c) ∧ w'.cell? ⟨w.heap.size, 10, none⟩ = some (.int .i64 N.ti) ∧ w'.cell? ⟨w.heap.size + 1, 0, none⟩ = some (.int .i64 (a : Int)) ∧ w'.cell? ⟨w.heap.size + 1, 1, none⟩ = some (.int .i64 (p : Int)) ∧ w'.cell? ⟨w.heap.size + 1, 2, none⟩ = some (.int .i64 (c : Int)) ∧ w'.cell? ⟨xb, xo, none⟩ = some (.int .i64 x.pk) ∧ w'.cell? ⟨xb, xo + 1, none⟩ = some (.int .i64 x.to) ∧ w'.cell? ⟨xb, xo + 2, none⟩ = some (.int .i64 x.cl) ∧ w'.cell? ⟨xb, xo + 3, none⟩ = some (.bool true) ∧ w'.cell? ⟨xb, xo + 4, none⟩ = some (.bool x.tl) from ⟨hn.cell 0, hn.cell 1, hn.cell 2, hn.cell 3, hn.cell 4, hn.cell 5, hn.cell 6, hn.cell 7, hn.cell 8, hn.cell 9, hn.cell 10, hi.cell 0, hi.cell 1, hi.cell 2, hg.cell x0 (by simp), hg.cell x1 (by simp), hg.cell x2 (by simp), hg.cell x3 (by simp), hg.cell x4 (by simp)⟩))
      have hfld : ∀ (w : World), (Instr.field 94 (.agg #[.func (.func 80) #[] #[], .func (.func 81) #[] #[]]) 1).run Try.prog w = .ok (.func (.func 81) #[] #[]) w := fun w => by kernel_rfl
      clear hf hn h hcell hrd hDj hA hD hv hr hx' hxc x0 x1 x2 x3 x4 hm hor hor2 hF hO hz hhl
      go_enter Try.func46, Try.ntmps46
      go_wp2_with fail
      refine (HWA.out _ GE.out).mono ?_
      rintro e w1 ⟨rfl, hg1⟩
      have K1 := KN.out.grown hg1 (by simp)
      have K2 := KI.out.grown hg1 (by simp)
      have b0 : w1.cell? ⟨w.heap.size, 0, none⟩ = some (.int .i64 N.W) := K1.cell 0
      have b1 : w1.cell? ⟨w.heap.size, 1, none⟩ = some (.int .i64 N.H) := K1.cell 1
      have b2 : w1.cell? ⟨w.heap.size, 2, none⟩ = some (.slice y.br.A N.br.length y.br.c) := K1.cell 2
      have b3 : w1.cell? ⟨w.heap.size, 3, none⟩ = some (.slice y.ta.A N.ta.length y.ta.c) := K1.cell 3
      have b4 : w1.cell? ⟨w.heap.size, 4, none⟩ = some (.slice y.tb.A N.tb.length y.tb.c) := K1.cell 4
      have b5 : w1.cell? ⟨w.heap.size, 5, none⟩ = some (.slice y.bu.A N.bu.length y.bu.c) := K1.cell 5
      have b6 : w1.cell? ⟨w.heap.size, 6, none⟩ = some (.slice y.ow.A N.ow.length y.ow.c) := K1.cell 6
      have b7 : w1.cell? ⟨w.heap.size, 7, none⟩ = some (.slice y.tu.A N.tu.length y.tu.c) := K1.cell 7
      have b8 : w1.cell? ⟨w.heap.size, 8, none⟩ = some (.slice y.so.A N.so.length y.so.c) := K1.cell 8
      have b9 : w1.cell? ⟨w.heap.size, 9, none⟩ = some (.slice y.ar.A N.ar.length y.ar.c) := K1.cell 9
      have b10 : w1.cell? ⟨w.heap.size, 10, none⟩ = some (.int .i64 N.ti) := K1.cell 10
      have i0 : w1.cell? ⟨w.heap.size + 1, 0, none⟩ = some (.int .i64 (a : Int)) := K2.cell 0
      have i1 : w1.cell? ⟨w.heap.size + 1, 1, none⟩ = some (.int .i64 (p : Int)) := K2.cell 1
      have i2 : w1.cell? ⟨w.heap.size + 1, 2, none⟩ = some (.int .i64 (c : Int)) := K2.cell 2
      have G1 := Lib.hid (gb_trans GE.out hg1)
      have KN1 := Lib.hid K1
      have KI1 := Lib.hid K2
      clear hg1 K1 K2
      go_wp2_with fail
      refine (HRO.out _ G1.out).mono ?_
      rintro e w2 ⟨rfl, hg2⟩
      have KQ := Lib.hid (fun w' (hg : w2.grownBy w' none) => KP.out w' (gb_trans (gb_trans G1.out hg2) hg) ((KN1.out.grown hg2 (by simp)).grown hg (by simp)) ((KI1.out.grown hg2 (by simp)).grown hg (by simp)))
      have T0 := Lib.hid (gb_refl w2 none)
      have G2 := Lib.hid (gb_trans G1.out hg2)
      clear hg2 b0 b1 b2 b3 b4 b5 b6 b7 b8 b9 b10 i0 i1 i2
      go_wp2_with fail
      go_region_held3 (fun w' => w'.cell? ⟨w.heap.size, 0, none⟩ = some (.int .i64 N.W) ∧ w'.cell? ⟨w.heap.size, 1, none⟩ = some (.int .i64 N.H) ∧ w'.cell? ⟨w.heap.size, 2, none⟩ = some (.slice y.br.A N.br.length y.br.c) ∧ w'.cell? ⟨w.heap.size, 3, none⟩ = some (.slice y.ta.A N.ta.length y.ta.c) ∧ w'.cell? ⟨w.heap.size, 4, none⟩ = some (.slice y.tb.A N.tb.length y.tb.c) ∧ w'.cell? ⟨w.heap.size, 5, none⟩ = some (.slice y.bu.A N.bu.length y.bu.c) ∧ w'.cell? ⟨w.heap.size, 6, none⟩ = some (.slice y.ow.A N.ow.length y.ow.c) ∧ w'.cell? ⟨w.heap.size, 7, none⟩ = some (.slice y.tu.A N.tu.length y.tu.c) ∧ w'.cell? ⟨w.heap.size, 8, none⟩ = some (.slice y.so.A N.so.length y.so.c) ∧ w'.cell? ⟨w.heap.size, 9, none⟩ = some (.slice y.ar.A N.ar.length y.ar.c) ∧ w'.cell? ⟨w.heap.size, 10, none⟩ = some (.int .i64 N.ti) ∧ w'.cell? ⟨w.heap.size + 1, 0, none⟩ = some (.int .i64 (a : Int)) ∧ w'.cell? ⟨w.heap.size + 1, 1, none⟩ = some (.int .i64 (p : Int)) ∧ w'.cell? ⟨w.heap.size + 1, 2, none⟩ = some (.int .i64 (c : Int)) ∧ w'.cell? ⟨xb, xo, none⟩ = some (.int .i64 x.pk) ∧ w'.cell? ⟨xb, xo + 1, none⟩ = some (.int .i64 x.to) ∧ w'.cell? ⟨xb, xo + 2, none⟩ = some (.int .i64 x.cl) ∧ w'.cell? ⟨xb, xo + 3, none⟩ = some (.bool true) ∧ w'.cell? ⟨xb, xo + 4, none⟩ = some (.bool x.tl))
        (first | with_reducible exact KQ.out _ (gb_drew T0.out) | with_reducible exact KQ.out _ T7.out | with_reducible exact KQ.out _ T6.out | with_reducible exact KQ.out _ T5.out | fail)
        (first
          | (go_at_call 59; (with_reducible refine (HWT.out _ (gb_drew G2.out)).mono ?_); rintro e w5 ⟨rfl, hg⟩; have T5 := Lib.hid (gb_trans (gb_drew T0.out) hg); clear hg)
          | (go_at_call 60; (with_reducible refine (kind_yes _ _ _ _ _).mono ?_); rintro e w6 ⟨rfl, hg⟩; have T6 := Lib.hid (gb_trans T5.out hg); clear hg)
          | (go_at_call 81; (with_reducible refine (HTP.out _ (gb_trans G2.out T6.out)).mono ?_); rintro e w7 ⟨rfl, hg⟩; have T7 := Lib.hid (gb_trans T6.out hg); clear hg)
          | fail)
      all_goals
        go_wp2_with fail
        go_ret
        exact ⟨rfl, gb_trans G2.out T7.out⟩
    | false =>
      rw [hhd] at x3 hor
      have hor2 : ownR N a i q = (z == (p : Int)) := by rw [hor]; exact Bool.eq_iff_iff.2 (by rw [beq_iff_eq, decide_eq_true_eq]; simp)
      rw [Bool.true_and, hor2]
      have HTP := Lib.hid hO
      have KP := Lib.hid (fun w' (hg : w.grownBy w' none) (hn : Blk w' w.heap.size 44 #[.int .i64 N.W, .int .i64 N.H, .slice y.br.A N.br.length y.br.c, .slice y.ta.A N.ta.length y.ta.c, .slice y.tb.A N.tb.length y.tb.c, .slice y.bu.A N.bu.length y.bu.c, .slice y.ow.A N.ow.length y.ow.c, .slice y.tu.A N.tu.length y.tu.c, .slice y.so.A N.so.length y.so.c, .slice y.ar.A N.ar.length y.ar.c, .int .i64 N.ti]) (hi : Blk w' (w.heap.size + 1) 66 #[.int .i64 (a : Int), .int .i64 (p : Int), .int .i64 (c : Int)]) => (show w'.cell? ⟨w.heap.size, 0, none⟩ = some (.int .i64 N.W) ∧ w'.cell? ⟨w.heap.size, 1, none⟩ = some (.int .i64 N.H) ∧ w'.cell? ⟨w.heap.size, 2, none⟩ = some (.slice y.br.A N.br.length y.br.c) ∧ w'.cell? ⟨w.heap.size, 3, none⟩ = some (.slice y.ta.A N.ta.length y.ta.c) ∧ w'.cell? ⟨w.heap.size, 4, none⟩ = some (.slice y.tb.A N.tb.length y.tb.c) ∧ w'.cell? ⟨w.heap.size, 5, none⟩ = some (.slice y.bu.A N.bu.length y.bu.c) ∧ w'.cell? ⟨w.heap.size, 6, none⟩ = some (.slice y.ow.A N.ow.length y.ow.c) ∧ w'.cell? ⟨w.heap.size, 7, none⟩ = some (.slice y.tu.A N.tu.length y.tu.c) ∧ w'.cell? ⟨w.heap.size, 8, none⟩ = some (.slice y.so.A N.so.length y.so.c) ∧ w'.cell? ⟨w.heap.size, 9, none⟩ = some (.slice y.ar.A N.ar.length y.ar.c) ∧ w'.cell? ⟨w.heap.size, 10, none⟩ = some (.int .i64 N.ti) ∧ w'.cell? ⟨w.heap.size + 1, 0, none⟩ = some (.int .i64 (a : Int)) ∧ w'.cell? ⟨w.heap.size + 1, 1, none⟩ = some (.int .i64 (p : Int)) ∧ w'.cell? ⟨w.heap.size + 1, 2, none⟩ = some (.int .i64 (c : Int)) ∧ w'.cell? ⟨xb, xo, none⟩ = some (.int .i64 x.pk) ∧ w'.cell? ⟨xb, xo + 1, none⟩ = some (.int .i64 x.to) ∧ w'.cell? ⟨xb, xo + 2, none⟩ = some (.int .i64 x.cl) ∧ w'.cell? ⟨xb, xo + 3, none⟩ = some (.bool false) ∧ w'.cell? ⟨xb, xo + 4, none⟩ = some (.bool x.tl) from ⟨hn.cell 0, hn.cell 1, hn.cell 2, hn.cell 3, hn.cell 4, hn.cell 5, hn.cell 6, hn.cell 7, hn.cell 8, hn.cell 9, hn.cell 10, hi.cell 0, hi.cell 1, hi.cell 2, hg.cell x0 (by simp), hg.cell x1 (by simp), hg.cell x2 (by simp), hg.cell x3 (by simp), hg.cell x4 (by simp)⟩))
      have hfld : ∀ (w : World), (Instr.field 94 (.agg #[.func (.func 82) #[] #[], .func (.func 83) #[] #[]]) 1).run Try.prog w = .ok (.func (.func 83) #[] #[]) w := fun w => by kernel_rfl
      clear hf hn h hcell hrd hDj hA hD hv hr hx' hxc x0 x1 x2 x3 x4 hm hor hor2 hF hO hz hhl
      go_enter Try.func46, Try.ntmps46
      go_wp2_with fail
      refine (HWA.out _ GE.out).mono ?_
      rintro e w1 ⟨rfl, hg1⟩
      have K1 := KN.out.grown hg1 (by simp)
      have K2 := KI.out.grown hg1 (by simp)
      have b0 : w1.cell? ⟨w.heap.size, 0, none⟩ = some (.int .i64 N.W) := K1.cell 0
      have b1 : w1.cell? ⟨w.heap.size, 1, none⟩ = some (.int .i64 N.H) := K1.cell 1
      have b2 : w1.cell? ⟨w.heap.size, 2, none⟩ = some (.slice y.br.A N.br.length y.br.c) := K1.cell 2
      have b3 : w1.cell? ⟨w.heap.size, 3, none⟩ = some (.slice y.ta.A N.ta.length y.ta.c) := K1.cell 3
      have b4 : w1.cell? ⟨w.heap.size, 4, none⟩ = some (.slice y.tb.A N.tb.length y.tb.c) := K1.cell 4
      have b5 : w1.cell? ⟨w.heap.size, 5, none⟩ = some (.slice y.bu.A N.bu.length y.bu.c) := K1.cell 5
      have b6 : w1.cell? ⟨w.heap.size, 6, none⟩ = some (.slice y.ow.A N.ow.length y.ow.c) := K1.cell 6
      have b7 : w1.cell? ⟨w.heap.size, 7, none⟩ = some (.slice y.tu.A N.tu.length y.tu.c) := K1.cell 7
      have b8 : w1.cell? ⟨w.heap.size, 8, none⟩ = some (.slice y.so.A N.so.length y.so.c) := K1.cell 8
      have b9 : w1.cell? ⟨w.heap.size, 9, none⟩ = some (.slice y.ar.A N.ar.length y.ar.c) := K1.cell 9
      have b10 : w1.cell? ⟨w.heap.size, 10, none⟩ = some (.int .i64 N.ti) := K1.cell 10
      have i0 : w1.cell? ⟨w.heap.size + 1, 0, none⟩ = some (.int .i64 (a : Int)) := K2.cell 0
      have i1 : w1.cell? ⟨w.heap.size + 1, 1, none⟩ = some (.int .i64 (p : Int)) := K2.cell 1
      have i2 : w1.cell? ⟨w.heap.size + 1, 2, none⟩ = some (.int .i64 (c : Int)) := K2.cell 2
      have G1 := Lib.hid (gb_trans GE.out hg1)
      have KN1 := Lib.hid K1
      have KI1 := Lib.hid K2
      clear hg1 K1 K2
      go_wp2_with fail
      refine (HRO.out _ G1.out).mono ?_
      rintro e w2 ⟨rfl, hg2⟩
      have KQ := Lib.hid (fun w' (hg : w2.grownBy w' none) => KP.out w' (gb_trans (gb_trans G1.out hg2) hg) ((KN1.out.grown hg2 (by simp)).grown hg (by simp)) ((KI1.out.grown hg2 (by simp)).grown hg (by simp)))
      have T0 := Lib.hid (gb_refl w2 none)
      have G2 := Lib.hid (gb_trans G1.out hg2)
      clear hg2 b0 b1 b2 b3 b4 b5 b6 b7 b8 b9 b10 i0 i1 i2
      go_wp2_with fail
      go_region_held3 (fun w' => w'.cell? ⟨w.heap.size, 0, none⟩ = some (.int .i64 N.W) ∧ w'.cell? ⟨w.heap.size, 1, none⟩ = some (.int .i64 N.H) ∧ w'.cell? ⟨w.heap.size, 2, none⟩ = some (.slice y.br.A N.br.length y.br.c) ∧ w'.cell? ⟨w.heap.size, 3, none⟩ = some (.slice y.ta.A N.ta.length y.ta.c) ∧ w'.cell? ⟨w.heap.size, 4, none⟩ = some (.slice y.tb.A N.tb.length y.tb.c) ∧ w'.cell? ⟨w.heap.size, 5, none⟩ = some (.slice y.bu.A N.bu.length y.bu.c) ∧ w'.cell? ⟨w.heap.size, 6, none⟩ = some (.slice y.ow.A N.ow.length y.ow.c) ∧ w'.cell? ⟨w.heap.size, 7, none⟩ = some (.slice y.tu.A N.tu.length y.tu.c) ∧ w'.cell? ⟨w.heap.size, 8, none⟩ = some (.slice y.so.A N.so.length y.so.c) ∧ w'.cell? ⟨w.heap.size, 9, none⟩ = some (.slice y.ar.A N.ar.length y.ar.c) ∧ w'.cell? ⟨w.heap.size, 10, none⟩ = some (.int .i64 N.ti) ∧ w'.cell? ⟨w.heap.size + 1, 0, none⟩ = some (.int .i64 (a : Int)) ∧ w'.cell? ⟨w.heap.size + 1, 1, none⟩ = some (.int .i64 (p : Int)) ∧ w'.cell? ⟨w.heap.size + 1, 2, none⟩ = some (.int .i64 (c : Int)) ∧ w'.cell? ⟨xb, xo, none⟩ = some (.int .i64 x.pk) ∧ w'.cell? ⟨xb, xo + 1, none⟩ = some (.int .i64 x.to) ∧ w'.cell? ⟨xb, xo + 2, none⟩ = some (.int .i64 x.cl) ∧ w'.cell? ⟨xb, xo + 3, none⟩ = some (.bool false) ∧ w'.cell? ⟨xb, xo + 4, none⟩ = some (.bool x.tl))
        (first | with_reducible exact KQ.out _ (gb_drew T0.out) | with_reducible exact KQ.out _ T7.out | with_reducible exact KQ.out _ T6.out | with_reducible exact KQ.out _ T5.out | fail)
        (first
          | (go_at_call 59; (with_reducible refine (HWT.out _ (gb_drew G2.out)).mono ?_); rintro e w5 ⟨rfl, hg⟩; have T5 := Lib.hid (gb_trans (gb_drew T0.out) hg); clear hg)
          | (go_at_call 60; (with_reducible refine (kind_no _ _ _ _ _).mono ?_); rintro e w6 ⟨rfl, hg⟩; have T6 := Lib.hid (gb_trans T5.out hg); clear hg)
          | (go_at_call 83; (with_reducible refine (HTP.out _ (gb_trans G2.out T6.out)).mono ?_); rintro e w7 ⟨rfl, hg⟩; have T7 := Lib.hid (gb_trans T6.out hg); clear hg)
          | fail)
      all_goals
        go_wp2_with fail
        go_ret
        exact ⟨rfl, gb_trans G2.out T7.out⟩
end Go.Proofs.Ytplpdjpldadcmaa
end

section
namespace Go.Proofs.Ytplpdjpldadcmaa
open Go.ChangeShapes Go.WideShapes Go.ChangeAt Go.RowKit
set_option linter.unusedVariables false
set_option maxRecDepth 20000

def sizesI (N : Nt) : Bool := decide (((N.bu.length : Nat) : Int) = 10 * countG N.W N.H ∧ ((N.ow.length : Nat) : Int) = 10 * countG N.W N.H ∧ ((N.tu.length : Nat) : Int) = 5 * countG N.W N.H ∧ ((N.so.length : Nat) : Int) = countG N.W N.H ∧ ((N.ar.length : Nat) : Int) = countG N.W N.H)
def bufJ (W H : Int) (i : Nat) (D : List Flt) : Bool := decide (D.length ≤ 3) && (lstOk W H D && D.all fun x => decide (x.cl = ((i % 2 : Nat) : Int)))
def bufsI (N : Nt) : Bool := (List.range N.bu.length).all fun i => bufJ N.W N.H i (N.bu.getD i [])
def srcsI (N : Nt) : Bool := N.so.all (srcOk N.W N.H)
theorem netOk_iff {N : Nt} : netOk N = true ↔ clsOk N.W N.H N.br N.ta N.tb = true ∧ sizesI N = true ∧ bufsI N = true ∧ srcsI N = true ∧ withL (-1) 4 N.ow = true ∧ withL 0 9 N.tu = true ∧ withL 0 1000000 [N.ti] = true := by
  constructor
  · intro h
    rw [netOk, Bool.and_eq_true, Bool.and_eq_true, Bool.and_eq_true, Bool.and_eq_true] at h
    obtain ⟨h1, h2, h3, h4, h5⟩ := h
    have h2' := of_decide_eq_true h2
    rw [List.all_eq_true] at h3 h4
    have key : ∀ i, i < N.bu.length → decide ((N.bu.getD i []).length ≤ 3) = true ∧ lstOk N.W N.H (N.bu.getD i []) = true ∧ decide (-1 ≤ N.ow.getD i 0 ∧ N.ow.getD i 0 ≤ 4) = true ∧ ((N.bu.getD i []).all fun x => decide (x.cl = ((i % 2 : Nat) : Int))) = true := fun i hi => by
      have h6 := h3 i (List.mem_range.2 hi)
      rw [bufOk, Bool.and_eq_true, Bool.and_eq_true, Bool.and_eq_true] at h6
      exact h6
    refine ⟨h1, decide_eq_true ⟨h2'.1, h2'.2.1, h2'.2.2.1, h2'.2.2.2.1, h2'.2.2.2.2.1⟩, ?_, h5, withL_yes (fun k x hx => ?_), withL_yes (fun k x hx => ?_), ?_⟩
    · rw [bufsI, List.all_eq_true]
      intro i hi
      obtain ⟨k1, k2, _, k4⟩ := key i (List.mem_range.1 hi)
      rw [bufJ, k1, k2, k4]
      rfl
    · have hk := (List.getElem?_eq_some_iff.1 hx).1
      have k3 := (key k (by omega)).2.2.1
      rw [List.getD_eq_getElem?_getD (l := N.ow), hx] at k3
      exact of_decide_eq_true k3
    · exact of_decide_eq_true (h4 x (List.mem_of_getElem? hx))
    · rw [withL_one]
      exact decide_eq_true h2'.2.2.2.2.2
  · rintro ⟨h1, h2, h3, h4, h5, h6, h7⟩
    have h2' := of_decide_eq_true h2
    rw [bufsI, List.all_eq_true] at h3
    rw [srcsI, List.all_eq_true] at h4
    rw [withL, List.all_eq_true] at h5 h6
    rw [withL_one] at h7
    refine nk_yes h1 (decide_eq_true ⟨h2'.1, h2'.2.1, h2'.2.2.1, h2'.2.2.2.1, h2'.2.2.2.2, of_decide_eq_true h7⟩) (fun i hi => ?_) (fun i t ht => h6 t (List.mem_of_getElem? ht)) (fun i D hD => h4 D (List.mem_of_getElem? hD))
    have h8 := h3 i (List.mem_range.2 hi)
    rw [bufJ, Bool.and_eq_true, Bool.and_eq_true] at h8
    have ho : N.ow.getD i 0 ∈ N.ow := by
      have hi2 : i < N.ow.length := by omega
      rw [List.getD_eq_getElem?_getD, List.getElem?_eq_getElem hi2]
      exact List.getElem_mem hi2
    rw [bufOk, h8.1, h8.2.1, h8.2.2, h5 _ ho]
    rfl
theorem netOk_no {N : Nt} (h : ¬ (clsOk N.W N.H N.br N.ta N.tb = true ∧ sizesI N = true ∧ bufsI N = true ∧ srcsI N = true ∧ withL (-1) 4 N.ow = true ∧ withL 0 9 N.tu = true ∧ withL 0 1000000 [N.ti] = true)) : false = netOk N := by
  cases hk : netOk N with
  | false => rfl
  | true => exact absurd (netOk_iff.1 hk) h
theorem bufsI_no {N : Nt} {i : Nat} (hi : i < N.bu.length) (h : bufJ N.W N.H i (N.bu.getD i []) = false) : bufsI N = false := by
  cases ha : bufsI N with
  | false => rfl
  | true =>
    rw [bufsI, List.all_eq_true] at ha
    rw [ha i (List.mem_range.2 hi)] at h
    cases h
theorem bufsI_yes {N : Nt} (h : ∀ i, i < N.bu.length → bufJ N.W N.H i (N.bu.getD i []) = true) : bufsI N = true := by
  rw [bufsI, List.all_eq_true]
  exact fun i hi => h i (List.mem_range.1 hi)
theorem bufJ_no1 {W H : Int} {i : Nat} {D : List Flt} (h : ¬ D.length ≤ 3) : bufJ W H i D = false := by rw [bufJ, decide_eq_false h]; rfl
theorem bufJ_no2 {W H : Int} {i : Nat} {D : List Flt} (h : lstOk W H D = false) : bufJ W H i D = false := by rw [bufJ, h, Bool.false_and, Bool.and_false]
theorem bufJ_no3 {W H : Int} {i q : Nat} {D : List Flt} {x : Flt} (hx : D[q]? = some x) (h : x.cl ≠ ((i % 2 : Nat) : Int)) : bufJ W H i D = false := by
  have h1 : (D.all fun x => decide (x.cl = ((i % 2 : Nat) : Int))) = false := by
    cases ha : D.all fun x => decide (x.cl = ((i % 2 : Nat) : Int)) with
    | false => rfl
    | true =>
      rw [List.all_eq_true] at ha
      exact absurd (of_decide_eq_true (ha x (List.mem_of_getElem? hx))) h
  rw [bufJ, h1, Bool.and_false, Bool.and_false]
theorem bufJ_yes {W H : Int} {i : Nat} {D : List Flt} (h1 : D.length ≤ 3) (h2 : lstOk W H D = true) (h4 : ∀ (q : Nat) x, D[q]? = some x → x.cl = ((i % 2 : Nat) : Int)) : bufJ W H i D = true := by
  have g4 : (D.all fun x => decide (x.cl = ((i % 2 : Nat) : Int))) = true := by
    rw [List.all_eq_true]
    intro x hx
    obtain ⟨q, hq, e⟩ := List.getElem_of_mem hx
    exact decide_eq_true (h4 q x (List.getElem?_eq_some_iff.2 ⟨hq, e⟩))
  rw [bufJ, decide_eq_true h1, h2, g4]
  rfl
theorem srcsI_no {N : Nt} {i : Nat} {D : List Flt} (hD : N.so[i]? = some D) (h : srcOk N.W N.H D = false) : srcsI N = false := by
  cases ha : srcsI N with
  | false => rfl
  | true =>
    rw [srcsI, List.all_eq_true] at ha
    rw [ha D (List.mem_of_getElem? hD)] at h
    cases h
theorem srcsI_yes {N : Nt} (h : ∀ (i : Nat) D, N.so[i]? = some D → srcOk N.W N.H D = true) : srcsI N = true := by
  rw [srcsI, List.all_eq_true]
  intro D hD
  obtain ⟨i, hi, e⟩ := List.getElem_of_mem hD
  exact h i D (List.getElem?_eq_some_iff.2 ⟨hi, e⟩)
theorem tmod_twoI (x : Nat) : Int.tmod (x : Int) 2 = ((x % 2 : Nat) : Int) := by
  rw [Int.tmod_eq_emod_of_nonneg (by omega)]; rfl
theorem sizesI_no {N : Nt} {k : Nat} (hk : countG N.W N.H = (k : Int)) (h : ¬ (N.bu.length = 10 * k ∧ N.ow.length = 10 * k ∧ N.tu.length = 5 * k ∧ N.so.length = k ∧ N.ar.length = k)) : sizesI N = false :=
  decide_eq_false (fun e => h (by rw [hk] at e; omega))
theorem sizesI_yes {N : Nt} {k : Nat} (hk : countG N.W N.H = (k : Int)) (h : N.bu.length = 10 * k ∧ N.ow.length = 10 * k ∧ N.tu.length = 5 * k ∧ N.so.length = k ∧ N.ar.length = k) : sizesI N = true :=
  decide_eq_true (by rw [hk]; omega)
end Go.Proofs.Ytplpdjpldadcmaa
end

section
namespace Go.Proofs.Ytplpdjpldadcmaa
open Go.ChangeShapes Go.WideShapes Go.ChangeAt Go.RowKit
set_option linter.unusedVariables false
set_option maxRecDepth 20000

/-- Each flit of a list goes to a node of the grid in a class that there is. -/
theorem implLeadsV (y : Na) (N : Nt) (A : Option Addr) (n cap : Nat) (D : List Flt) (r : Bool) (hr : lstOk N.W N.H D = r) (w : World) (h : RecAt 5 fltC w w.heap.size A n D) (hn : n ≤ 1000000000) :
    Calls Try.prog 89 #[.agg #[.int .i64 N.W, .int .i64 N.H, .slice y.br.A N.br.length y.br.c, .slice y.ta.A N.ta.length y.ta.c, .slice y.tb.A N.tb.length y.tb.c, .slice y.bu.A N.bu.length y.bu.c, .slice y.ow.A N.ow.length y.ow.c, .slice y.tu.A N.tu.length y.tu.c, .slice y.so.A N.so.length y.so.c, .slice y.ar.A N.ar.length y.ar.c, .int .i64 N.ti], .slice A n cap] w (RetB r w) := by
  have HI := Lib.hid h
  have hl := h.1
  have HYES := Lib.hid (lstOk_yes (W := N.W) (H := N.H) (D := D))
  have HNO := Lib.hid (fun k x hx hf => lstOk_no (W := N.W) (H := N.H) (D := D) (k := k) (x := x) hx hf)
  rw [hr] at HYES HNO
  have X0 := Lib.hid (nkAt_start (w := w) (y := y) (N := N))
  have HHN := Lib.hid (fun (n : Int) (b : Bool) (hb : hasG N.W N.H n = b) w => show Calls Try.prog 41 #[.agg #[.int .i64 N.W, .int .i64 N.H], .int .i64 n] w (RetB b w) from hb ▸ implHasNode N.W N.H n w)
  have HIC := Lib.hid (fun (c : Int) (b : Bool) (hb : decide (0 ≤ c ∧ c ≤ 1) = b) w => implIsClassN c b hb w)
  clear h hr
  go_enter Try.func89, Try.ntmps89
  go_wp2_with fail
  go_loopw [9] (fun i wr => ∃ k : Nat, i = .int .i64 (k : Int) ∧ k ≤ n ∧ (∀ (j : Nat) x, j < k → D[j]? = some x → fltOk N.W N.H x = true) ∧ NkAt w y N wr) (fun i _ => n - (intOf i).toNat)
  case atStart => exact ⟨0, rfl, Nat.zero_le _, fun j x hj => by omega, X0.out⟩
  case round =>
    obtain ⟨k, rfl, hk, hall, hx0⟩ := hrel
    have HALL := Lib.hid hall
    have XR := Lib.hid hx0
    by_cases hlt : k < n
    · obtain ⟨b, o, x, rfl, _, hx, hc⟩ := (HI.out.none (Nat.le_refl _) hx0.g).at k hlt
      obtain ⟨a0, a1, a2, a3, a4⟩ := flt_five hc
      have k0 : (0 : Int) ≤ (k : Int) := by omega
      have k1 : (k : Int) < (n : Int) := by omega
      have HX := Lib.hid hx
      have hxb := hx0.gb (gb_alloc (gb_refl wr none) (.cells #[.int .i64 x.pk, .int .i64 x.to, .int .i64 x.cl, .bool x.hd, .bool x.tl] 85))
      have g0 : (wr.alloc (.cells #[.int .i64 x.pk, .int .i64 x.to, .int .i64 x.cl, .bool x.hd, .bool x.tl] 85)).cell? ⟨w.heap.size, 0, none⟩ = some (.int .i64 N.W) := hxb.b.cell 0
      have g1 : (wr.alloc (.cells #[.int .i64 x.pk, .int .i64 x.to, .int .i64 x.cl, .bool x.hd, .bool x.tl] 85)).cell? ⟨w.heap.size, 1, none⟩ = some (.int .i64 N.H) := hxb.b.cell 1
      have XB := Lib.hid hxb
      have KB := Lib.hid (Blk.new wr 85 #[.int .i64 x.pk, .int .i64 x.to, .int .i64 x.cl, .bool x.hd, .bool x.tl])
      obtain ⟨pk, tq, cl, hd, tl⟩ := x
      dsimp only at a0 a1 a2 a3 a4 g0 g1 XB KB
      clear hx hc hall hx0 hxb
      cases hh : hasG N.W N.H tq with
      | false =>
        have C1 := Lib.hid (HHN.out tq false hh)
        have HR := Lib.hid (HNO.out k _ HX.out (show fltOk N.W N.H ⟨pk, tq, cl, hd, tl⟩ = false by rw [fltOk, hh]; rfl))
        clear hh
        go_wp2_with fail
        refine (C1.out _).mono ?_
        rintro e w4 ⟨rfl, g4⟩
        have X4 := Lib.hid (XB.out.gb g4)
        clear g4 g0 g1 a0 a1 a2 a3 a4
        go_wp2_with fail
        go_ret
        exact ⟨ret_bool HR.out.symm, X4.out.g⟩
      | true =>
        have C1 := Lib.hid (HHN.out tq true hh)
        cases hcb : decide (0 ≤ cl ∧ cl ≤ 1) with
        | false =>
          have C2 := Lib.hid (HIC.out cl false hcb)
          have HR := Lib.hid (HNO.out k _ HX.out (show fltOk N.W N.H ⟨pk, tq, cl, hd, tl⟩ = false by rw [fltOk, hh, hcb]; rfl))
          clear hh hcb
          go_wp2_with fail
          refine (C1.out _).mono ?_
          rintro e w4 ⟨rfl, g4⟩
          have X4 := Lib.hid (XB.out.gb g4)
          have f2 : w4.cell? ⟨wr.heap.size, 2, none⟩ = some (.int .i64 cl) := (KB.out.grown g4 (by simp)).cell 2
          clear g4 g0 g1 a0 a1 a2 a3 a4
          go_wp2_with fail
          refine (C2.out _).mono ?_
          rintro e w5 ⟨rfl, rfl⟩
          go_wp2_with fail
          go_ret
          exact ⟨ret_bool HR.out.symm, X4.out.g⟩
        | true =>
          have C2 := Lib.hid (HIC.out cl true hcb)
          have HF := Lib.hid (show fltOk N.W N.H ⟨pk, tq, cl, hd, tl⟩ = true by rw [fltOk, hh, hcb]; rfl)
          clear hh hcb
          go_wp2_with fail
          refine (C1.out _).mono ?_
          rintro e w4 ⟨rfl, g4⟩
          have X4 := Lib.hid (XB.out.gb g4)
          have f2 : w4.cell? ⟨wr.heap.size, 2, none⟩ = some (.int .i64 cl) := (KB.out.grown g4 (by simp)).cell 2
          clear g4 g0 g1 a0 a1 a2 a3 a4
          go_wp2_with fail
          refine (C2.out _).mono ?_
          rintro e w5 ⟨rfl, rfl⟩
          clear f2
          go_wp2_with fail
          go_roundw
          case rel => exact ⟨k + 1, by go_num, by omega, fun j z hj hz => by
            rcases Nat.lt_or_ge j k with h1 | h1
            · exact HALL.out j z h1 hz
            · obtain rfl : j = k := by omega
              rw [HX.out] at hz
              cases hz
              exact HF.out, X4.out⟩
          case measure => simp [intOf]; omega
    · have k1 : ¬ (k : Int) < (n : Int) := by omega
      have HR := Lib.hid (HYES.out (fun j x hx => HALL.out j x (by have := (List.getElem?_eq_some_iff.1 hx).1; omega) hx))
      clear hall hx0
      go_wp2_with fail
      go_ret
      exact ⟨ret_bool HR.out.symm, XR.out.g⟩
/-- The lists have as many elements as the mesh has nodes, ports and classes. -/
theorem implSizesV (y : Na) (N : Nt) (r : Bool) (hr : sizesI N = r) (w : World) :
    Calls Try.prog 68 #[.agg #[.int .i64 N.W, .int .i64 N.H, .slice y.br.A N.br.length y.br.c, .slice y.ta.A N.ta.length y.ta.c, .slice y.tb.A N.tb.length y.tb.c, .slice y.bu.A N.bu.length y.bu.c, .slice y.ow.A N.ow.length y.ow.c, .slice y.tu.A N.tu.length y.tu.c, .slice y.so.A N.so.length y.so.c, .slice y.ar.A N.ar.length y.ar.c, .int .i64 N.ti]] w (RetB r w) := by
  obtain ⟨kk, hkk⟩ : ∃ kk : Nat, countG N.W N.H = (kk : Int) := ⟨(countG N.W N.H).toNat, by have := (countG_le N.W N.H).1; omega⟩
  have hk16 : kk ≤ 16 := by have := (countG_le N.W N.H).2; omega
  have HNC : Hid (∀ w, Calls Try.prog 71 #[.agg #[.int .i64 N.W, .int .i64 N.H]] w (RetI (kk : Int) none w)) := Lib.hid (fun w => by have h := implNodeCount N.W N.H w; rw [hkk] at h; exact h)
  have HSN := Lib.hid (sizesI_no hkk)
  have HSY := Lib.hid (sizesI_yes hkk)
  rw [hr] at HSN HSY
  obtain ⟨b10, hb10⟩ : ∃ b, 10 * kk = b := ⟨_, rfl⟩
  obtain ⟨b5, hb5⟩ : ∃ b, 5 * kk = b := ⟨_, rfl⟩
  rw [hb10, hb5] at HSN HSY
  have e10 : wrap64 (10 * (kk : Int)) = (b10 : Int) := by rw [IntWalk.wrap64_in _ (by omega)]; omega
  have e5 : wrap64 (5 * (kk : Int)) = (b5 : Int) := by rw [IntWalk.wrap64_in _ (by omega)]; omega
  have e10b : IntKind.i64.wrap (10 * (kk : Int)) = (b10 : Int) := by rw [IntWalk.i64_in _ (by omega)]; omega
  have e5b : IntKind.i64.wrap (5 * (kk : Int)) = (b5 : Int) := by rw [IntWalk.i64_in _ (by omega)]; omega
  have X0 := Lib.hid (nkAt_start (w := w) (y := y) (N := N))
  clear hkk hr hb10 hb5
  go_enter Try.func68, Try.ntmps68
  go_wp2_with fail
  refine (HNC.out _).mono ?_
  rintro e w1 ⟨rfl, g1⟩
  have X1 := Lib.hid (X0.out.gb g1)
  have a5 : w1.cell? ⟨w.heap.size, 5, none⟩ = some (.slice y.bu.A N.bu.length y.bu.c) := X1.out.b.cell 5
  have a6 : w1.cell? ⟨w.heap.size, 6, none⟩ = some (.slice y.ow.A N.ow.length y.ow.c) := X1.out.b.cell 6
  have a7 : w1.cell? ⟨w.heap.size, 7, none⟩ = some (.slice y.tu.A N.tu.length y.tu.c) := X1.out.b.cell 7
  have a8 : w1.cell? ⟨w.heap.size, 8, none⟩ = some (.slice y.so.A N.so.length y.so.c) := X1.out.b.cell 8
  have a9 : w1.cell? ⟨w.heap.size, 9, none⟩ = some (.slice y.ar.A N.ar.length y.ar.c) := X1.out.b.cell 9
  clear g1
  by_cases hbu : N.bu.length = b10
  rotate_left
  · have HE := Lib.hid (show false = r from (HSN.out (fun e => hbu (by omega))).symm)
    have pbu : ((N.bu.length : Int) == (b10 : Int)) = false := by simp; omega
    have qbu : ¬ (N.bu.length : Int) = (b10 : Int) := by omega
    clear hbu
    go_wp2_with fail
    go_ret
    exact ⟨ret_bool HE.out, X1.out.g⟩
  have pbu : ((N.bu.length : Int) == (b10 : Int)) = true := by simp; omega
  have qbu : (N.bu.length : Int) = (b10 : Int) := by omega
  have Hbu := Lib.hid hbu
  clear hbu
  by_cases how : N.ow.length = b10
  rotate_left
  · have HE := Lib.hid (show false = r from (HSN.out (fun e => how (by omega))).symm)
    have pow : ((N.ow.length : Int) == (b10 : Int)) = false := by simp; omega
    have qow : ¬ (N.ow.length : Int) = (b10 : Int) := by omega
    clear how
    go_wp2_with fail
    go_ret
    exact ⟨ret_bool HE.out, X1.out.g⟩
  have pow : ((N.ow.length : Int) == (b10 : Int)) = true := by simp; omega
  have qow : (N.ow.length : Int) = (b10 : Int) := by omega
  have How := Lib.hid how
  clear how
  by_cases htu : N.tu.length = b5
  rotate_left
  · have HE := Lib.hid (show false = r from (HSN.out (fun e => htu (by omega))).symm)
    have ptu : ((N.tu.length : Int) == (b5 : Int)) = false := by simp; omega
    have qtu : ¬ (N.tu.length : Int) = (b5 : Int) := by omega
    clear htu
    go_wp2_with fail
    go_ret
    exact ⟨ret_bool HE.out, X1.out.g⟩
  have ptu : ((N.tu.length : Int) == (b5 : Int)) = true := by simp; omega
  have qtu : (N.tu.length : Int) = (b5 : Int) := by omega
  have Htu := Lib.hid htu
  clear htu
  by_cases hso : N.so.length = kk
  rotate_left
  · have HE := Lib.hid (show false = r from (HSN.out (fun e => hso (by omega))).symm)
    have pso : ((N.so.length : Int) == (kk : Int)) = false := by simp; omega
    have qso : ¬ (N.so.length : Int) = (kk : Int) := by omega
    clear hso
    go_wp2_with fail
    go_ret
    exact ⟨ret_bool HE.out, X1.out.g⟩
  have pso : ((N.so.length : Int) == (kk : Int)) = true := by simp; omega
  have qso : (N.so.length : Int) = (kk : Int) := by omega
  have Hso := Lib.hid hso
  clear hso
  by_cases har : N.ar.length = kk
  rotate_left
  · have HE := Lib.hid (show false = r from (HSN.out (fun e => har (by omega))).symm)
    have par : ((N.ar.length : Int) == (kk : Int)) = false := by simp; omega
    have qar : ¬ (N.ar.length : Int) = (kk : Int) := by omega
    clear har
    go_wp2_with fail
    go_ret
    exact ⟨ret_bool HE.out, X1.out.g⟩
  have par : ((N.ar.length : Int) == (kk : Int)) = true := by simp; omega
  have qar : (N.ar.length : Int) = (kk : Int) := by omega
  have Har := Lib.hid har
  clear har
  have HE := Lib.hid (show true = r from (HSY.out ⟨Hbu.out, How.out, Htu.out, Hso.out, Har.out⟩).symm)
  go_wp2_with fail
  go_ret
  exact ⟨ret_bool HE.out, X1.out.g⟩
set_option maxHeartbeats 1600000 in
/-- No buffer holds too many flits or one that does not belong there. -/
theorem implBufsV (y : Na) (N : Nt) (r : Bool) (hr : bufsI N = r) (w : World) (h : NetIn w w.heap.size y N) (hn : NetSm N) :
    Calls Try.prog 69 #[.agg #[.int .i64 N.W, .int .i64 N.H, .slice y.br.A N.br.length y.br.c, .slice y.ta.A N.ta.length y.ta.c, .slice y.tb.A N.tb.length y.tb.c, .slice y.bu.A N.bu.length y.bu.c, .slice y.ow.A N.ow.length y.ow.c, .slice y.tu.A N.tu.length y.tu.c, .slice y.so.A N.so.length y.so.c, .slice y.ar.A N.ar.length y.ar.c, .int .i64 N.ti]] w (RetB r w) := by
  have HI := Lib.hid h
  have HSM := Lib.hid hn
  have HNO := Lib.hid (fun i => bufsI_no (N := N) (i := i))
  have HYES := Lib.hid (bufsI_yes (N := N))
  rw [hr] at HNO HYES
  have X0 := Lib.hid (nkAt_start (w := w) (y := y) (N := N))
  have HLD := Lib.hid (fun A n cap D r hr w h hn => implLeadsV y N A n cap D r hr w h hn)
  have h9 : N.bu.length ≤ 1000000000 := hn.bu
  clear h hr hn
  obtain ⟨⟨A0, c0⟩, ⟨A1, c1⟩, ⟨A2, c2⟩, ⟨A3, c3⟩, ⟨A4, c4⟩, ⟨A5, c5⟩, ⟨A6, c6⟩, ⟨A7, c7⟩⟩ := y
  dsimp only at HLD ⊢
  go_enter Try.func69, Try.ntmps69
  go_wp2_with fail
  go_loopw [10] (fun i wr => ∃ k : Nat, i = .int .i64 (k : Int) ∧ k ≤ N.bu.length ∧ (∀ j, j < k → bufJ N.W N.H j (N.bu.getD j []) = true) ∧ NkAt w ⟨⟨A0, c0⟩, ⟨A1, c1⟩, ⟨A2, c2⟩, ⟨A3, c3⟩, ⟨A4, c4⟩, ⟨A5, c5⟩, ⟨A6, c6⟩, ⟨A7, c7⟩⟩ N wr) (fun i _ => N.bu.length - (intOf i).toNat)
  case atStart => exact ⟨0, rfl, Nat.zero_le _, fun j hj => by omega, X0.out⟩
  case round =>
    obtain ⟨k, rfl, hk, hall, hx⟩ := hrel
    have HALL := Lib.hid hall
    have X1 := Lib.hid hx
    clear hall hx
    by_cases hlt : k < N.bu.length
    · obtain ⟨b, off, D, A', c', hA, _, hD, hcell, hcap, hrec⟩ := (X1.out.in HI.out).bu.at k hlt
      have hA' : A3 = some ⟨b, off, none⟩ := hA
      subst hA'
      have hgd : N.bu.getD k [] = D := getD_of hD
      have HJ := Lib.hid (fun (b : Bool) (hb : bufJ N.W N.H k D = b) => show bufJ N.W N.H k (N.bu.getD k []) = b by rw [hgd]; exact hb)
      have HREC := Lib.hid hrec
      have hat := sumL_at hD
      have h8 : D.length ≤ 1000000000 := by have := HSM.out.sbu; omega
      have k0 : (0 : Int) ≤ (k : Int) := by omega
      have k1 : (k : Int) < (N.bu.length : Int) := by omega
      have HKL := Lib.hid hlt
      clear hA hgd hat hD hrec hcap
      by_cases h3 : D.length ≤ 3
      rotate_left
      · have HR := Lib.hid (HNO.out k hlt (HJ.out false (bufJ_no1 h3)))
        have p3 : (D.length : Int) > 3 := by omega
        clear h3
        go_wp2_with fail
        go_ret
        exact ⟨ret_bool HR.out.symm, X1.out.g⟩
      have p3 : ¬ (D.length : Int) > 3 := by omega
      have a0 : wr.cell? ⟨w.heap.size, 0, none⟩ = some (.int .i64 N.W) := X1.out.b.cell 0
      have a1 : wr.cell? ⟨w.heap.size, 1, none⟩ = some (.int .i64 N.H) := X1.out.b.cell 1
      have a2 : wr.cell? ⟨w.heap.size, 2, none⟩ = some (.slice A0 N.br.length c0) := X1.out.b.cell 2
      have a3 : wr.cell? ⟨w.heap.size, 3, none⟩ = some (.slice A1 N.ta.length c1) := X1.out.b.cell 3
      have a4 : wr.cell? ⟨w.heap.size, 4, none⟩ = some (.slice A2 N.tb.length c2) := X1.out.b.cell 4
      have a5 : wr.cell? ⟨w.heap.size, 5, none⟩ = some (.slice (some ⟨b, off, none⟩) N.bu.length c3) := X1.out.b.cell 5
      have a6 : wr.cell? ⟨w.heap.size, 6, none⟩ = some (.slice A4 N.ow.length c4) := X1.out.b.cell 6
      have a7 : wr.cell? ⟨w.heap.size, 7, none⟩ = some (.slice A5 N.tu.length c5) := X1.out.b.cell 7
      have a8 : wr.cell? ⟨w.heap.size, 8, none⟩ = some (.slice A6 N.so.length c6) := X1.out.b.cell 8
      have a9 : wr.cell? ⟨w.heap.size, 9, none⟩ = some (.slice A7 N.ar.length c7) := X1.out.b.cell 9
      have a10 : wr.cell? ⟨w.heap.size, 10, none⟩ = some (.int .i64 N.ti) := X1.out.b.cell 10
      cases hlo : lstOk N.W N.H D with
      | false =>
        have HC := Lib.hid (HLD.out A' D.length c' D false hlo _ HREC.out h8)
        have HR := Lib.hid (HNO.out k hlt (HJ.out false (bufJ_no2 hlo)))
        clear hlo
        go_wp2_with fail
        refine HC.out.mono ?_
        rintro e w2 ⟨rfl, g2⟩
        have X2 := Lib.hid (X1.out.gb g2)
        clear g2 a0 a1 a2 a3 a4 a5 a6 a7 a8 a9 a10 hcell
        go_wp2_with fail
        go_ret
        exact ⟨ret_bool HR.out.symm, X2.out.g⟩
      | true =>
        have HC := Lib.hid (HLD.out A' D.length c' D true hlo _ HREC.out h8)
        have HN4 := Lib.hid (fun q x hx h => HNO.out k HKL.out (HJ.out false (bufJ_no3 (q := q) (x := x) hx h)))
        have HYB := Lib.hid (fun h => HJ.out true (bufJ_yes h3 hlo h))
        have em : Int.tmod (k : Int) 2 = ((k % 2 : Nat) : Int) := tmod_twoI k
        obtain ⟨md, hmd⟩ : ∃ m : Nat, k % 2 = m := ⟨_, rfl⟩
        have hmd2 : md < 2 := by omega
        rw [hmd] at em HYB HN4
        have em2 : IntKind.i64.wrap (md : Int) = (md : Int) := IntWalk.i64_in _ (by omega)
        have em3 : wrap64 (md : Int) = (md : Int) := IntWalk.wrap64_in _ (by omega)
        clear hlo hmd
        go_wp2_with fail
        refine HC.out.mono ?_
        rintro e w2 ⟨rfl, g2⟩
        have X2 := Lib.hid (X1.out.gb g2)
        have RE2 := Lib.hid (HREC.out.none (Nat.le_refl _) g2)
        have SZ2 := Lib.hid g2.size
        obtain ⟨gs, hgs⟩ : ∃ g, wr.heap.size = g := ⟨_, rfl⟩
        rw [hgs] at SZ2 RE2
        clear hgs
        clear g2 a0 a1 a2 a3 a4 a5 a6 a7 a8 a9 a10 hcell
        go_wp2_with fail
        go_loopw [26] (fun j ws => ∃ q : Nat, j = .int .i64 (q : Int) ∧ q ≤ D.length ∧ (∀ (p : Nat) x, p < q → D[p]? = some x → x.cl = (md : Int)) ∧ NkAt w ⟨⟨A0, c0⟩, ⟨A1, c1⟩, ⟨A2, c2⟩, ⟨some ⟨b, off, none⟩, c3⟩, ⟨A4, c4⟩, ⟨A5, c5⟩, ⟨A6, c6⟩, ⟨A7, c7⟩⟩ N ws ∧ gs ≤ ws.heap.size ∧ RecAt 5 fltC ws gs A' D.length D) (fun j _ => 4 - (intOf j).toNat)
        case atStart => exact ⟨0, rfl, Nat.zero_le _, fun p x hp => by omega, X2.out, SZ2.out, RE2.out⟩
        case round =>
          obtain ⟨q, rfl, hq, hqa, hx, hsw, hre⟩ := hrel
          have HSW := Lib.hid hsw
          have HQA := Lib.hid hqa
          have X5 := Lib.hid hx
          have REC5 := Lib.hid hre
          clear hqa hx hre hsw
          by_cases hql : q < D.length
          · obtain ⟨fb, fo, x, rfl, hfb, hx, hfc⟩ := REC5.out.at q hql
            obtain ⟨f0, f1, f2, f3, f4⟩ := flt_five hfc
            have q0 : (0 : Int) ≤ (q : Int) := by omega
            have q1 : (q : Int) < (D.length : Int) := by omega
            have HX := Lib.hid hx
            have hga := gb_alloc (gb_refl wr none) (.cells #[.int .i64 x.pk, .int .i64 x.to, .int .i64 x.cl, .bool x.hd, .bool x.tl] 85)
            have X6 := Lib.hid (X5.out.gb hga)
            have REC6 := Lib.hid (show RecAt 5 fltC (wr.alloc (.cells #[.int .i64 x.pk, .int .i64 x.to, .int .i64 x.cl, .bool x.hd, .bool x.tl] 85)) gs (some ⟨fb, fo, none⟩) D.length D from REC5.out.none HSW.out hga)
            obtain ⟨pk, tq, cl, hd, tl⟩ := x
            dsimp only at f0 f1 f2 f3 f4 X6 REC6
            clear hx hfc hga
            by_cases hce : cl = (md : Int)
            · have HCE := Lib.hid hce
              subst hce
              have pce : ((md : Int) == (md : Int)) = true := by simp
              go_wp2_with fail
              go_roundw
              case rel => exact ⟨q + 1, by go_num, by omega, fun p z hp hz => by
                rcases Nat.lt_or_ge p q with h1 | h1
                · exact HQA.out p z h1 hz
                · obtain rfl : p = q := by omega
                  rw [HX.out] at hz
                  cases hz
                  rfl, X6.out, by rw [alloc_size]; have := HSW.out; omega, REC6.out⟩
              case measure => simp [intOf]; omega
            · have HR := Lib.hid (HN4.out q _ HX.out hce)
              have pce : (cl == (md : Int)) = false := by simpa using hce
              go_wp2_with fail
              go_ret
              exact ⟨ret_bool HR.out.symm, X6.out.g⟩
          · have q1 : ¬ (q : Int) < (D.length : Int) := by omega
            have HBO := Lib.hid (HYB.out (fun p x hx => HQA.out p x (by have := (List.getElem?_eq_some_iff.1 hx).1; omega) hx))
            go_wp2_with fail
            go_roundw
            case rel => exact ⟨k + 1, by go_num, by omega, fun j hj => by
              rcases Nat.lt_or_ge j k with h1 | h1
              · exact HALL.out j h1
              · obtain rfl : j = k := by omega
                exact HBO.out, X5.out⟩
            case measure => simp [intOf]; omega
    · have k1 : ¬ (k : Int) < (N.bu.length : Int) := by omega
      have HR := Lib.hid (HYES.out (fun i hi => HALL.out i (by omega)))
      go_wp2_with fail
      go_ret
      exact ⟨ret_bool HR.out.symm, X1.out.g⟩
/-- No source holds too many flits or one that cannot be sent. -/
theorem implSrcsV (y : Na) (N : Nt) (r : Bool) (hr : srcsI N = r) (w : World) (h : NetIn w w.heap.size y N) (hn : NetSm N) :
    Calls Try.prog 70 #[.agg #[.int .i64 N.W, .int .i64 N.H, .slice y.br.A N.br.length y.br.c, .slice y.ta.A N.ta.length y.ta.c, .slice y.tb.A N.tb.length y.tb.c, .slice y.bu.A N.bu.length y.bu.c, .slice y.ow.A N.ow.length y.ow.c, .slice y.tu.A N.tu.length y.tu.c, .slice y.so.A N.so.length y.so.c, .slice y.ar.A N.ar.length y.ar.c, .int .i64 N.ti]] w (RetB r w) := by
  have HI := Lib.hid h
  have HSM := Lib.hid hn
  have HNO := Lib.hid (fun i D => srcsI_no (N := N) (i := i) (D := D))
  have HYES := Lib.hid (srcsI_yes (N := N))
  rw [hr] at HNO HYES
  have X0 := Lib.hid (nkAt_start (w := w) (y := y) (N := N))
  have HLD := Lib.hid (fun A n cap D r hr w h hn => implLeadsV y N A n cap D r hr w h hn)
  have h9 : N.so.length ≤ 1000000000 := hn.so
  clear h hr hn
  obtain ⟨⟨A0, c0⟩, ⟨A1, c1⟩, ⟨A2, c2⟩, ⟨A3, c3⟩, ⟨A4, c4⟩, ⟨A5, c5⟩, ⟨A6, c6⟩, ⟨A7, c7⟩⟩ := y
  dsimp only at HLD ⊢
  go_enter Try.func70, Try.ntmps70
  go_wp2_with fail
  go_loopw [8] (fun i wr => ∃ k : Nat, i = .int .i64 (k : Int) ∧ k ≤ N.so.length ∧ (∀ (j : Nat) D, j < k → N.so[j]? = some D → srcOk N.W N.H D = true) ∧ NkAt w ⟨⟨A0, c0⟩, ⟨A1, c1⟩, ⟨A2, c2⟩, ⟨A3, c3⟩, ⟨A4, c4⟩, ⟨A5, c5⟩, ⟨A6, c6⟩, ⟨A7, c7⟩⟩ N wr) (fun i _ => N.so.length - (intOf i).toNat)
  case atStart => exact ⟨0, rfl, Nat.zero_le _, fun j D hj => by omega, X0.out⟩
  case round =>
    obtain ⟨k, rfl, hk, hall, hx⟩ := hrel
    have HALL := Lib.hid hall
    have X1 := Lib.hid hx
    clear hall hx
    by_cases hlt : k < N.so.length
    · obtain ⟨b, off, D, A', c', hA, _, hD, hcell, hcap, hrec⟩ := (X1.out.in HI.out).so.at k hlt
      have hA' : A6 = some ⟨b, off, none⟩ := hA
      subst hA'
      have HREC := Lib.hid hrec
      have HDD := Lib.hid hD
      have hat := sumL_at hD
      have h8 : D.length ≤ 1000000000 := by have := HSM.out.sso; omega
      have k0 : (0 : Int) ≤ (k : Int) := by omega
      have k1 : (k : Int) < (N.so.length : Int) := by omega
      clear hA hat hD hrec hcap
      by_cases h3 : D.length ≤ 60
      rotate_left
      · have HR := Lib.hid (HNO.out k D HDD.out (src_no1 h3))
        have p3 : (D.length : Int) > 60 := by omega
        clear h3
        go_wp2_with fail
        go_ret
        exact ⟨ret_bool HR.out.symm, X1.out.g⟩
      have p3 : ¬ (D.length : Int) > 60 := by omega
      have a0 : wr.cell? ⟨w.heap.size, 0, none⟩ = some (.int .i64 N.W) := X1.out.b.cell 0
      have a1 : wr.cell? ⟨w.heap.size, 1, none⟩ = some (.int .i64 N.H) := X1.out.b.cell 1
      have a2 : wr.cell? ⟨w.heap.size, 2, none⟩ = some (.slice A0 N.br.length c0) := X1.out.b.cell 2
      have a3 : wr.cell? ⟨w.heap.size, 3, none⟩ = some (.slice A1 N.ta.length c1) := X1.out.b.cell 3
      have a4 : wr.cell? ⟨w.heap.size, 4, none⟩ = some (.slice A2 N.tb.length c2) := X1.out.b.cell 4
      have a5 : wr.cell? ⟨w.heap.size, 5, none⟩ = some (.slice A3 N.bu.length c3) := X1.out.b.cell 5
      have a6 : wr.cell? ⟨w.heap.size, 6, none⟩ = some (.slice A4 N.ow.length c4) := X1.out.b.cell 6
      have a7 : wr.cell? ⟨w.heap.size, 7, none⟩ = some (.slice A5 N.tu.length c5) := X1.out.b.cell 7
      have a8 : wr.cell? ⟨w.heap.size, 8, none⟩ = some (.slice (some ⟨b, off, none⟩) N.so.length c6) := X1.out.b.cell 8
      have a9 : wr.cell? ⟨w.heap.size, 9, none⟩ = some (.slice A7 N.ar.length c7) := X1.out.b.cell 9
      have a10 : wr.cell? ⟨w.heap.size, 10, none⟩ = some (.int .i64 N.ti) := X1.out.b.cell 10
      cases hlo : lstOk N.W N.H D with
      | false =>
        have HC := Lib.hid (HLD.out A' D.length c' D false hlo _ HREC.out h8)
        have HR := Lib.hid (HNO.out k D HDD.out (src_is h3 hlo))
        clear hlo
        go_wp2_with fail
        refine HC.out.mono ?_
        rintro e w2 ⟨rfl, g2⟩
        have X2 := Lib.hid (X1.out.gb g2)
        clear g2 a0 a1 a2 a3 a4 a5 a6 a7 a8 a9 a10 hcell
        go_wp2_with fail
        go_ret
        exact ⟨ret_bool HR.out.symm, X2.out.g⟩
      | true =>
        have HC := Lib.hid (HLD.out A' D.length c' D true hlo _ HREC.out h8)
        have HS := Lib.hid (src_is h3 hlo)
        clear hlo
        go_wp2_with fail
        refine HC.out.mono ?_
        rintro e w2 ⟨rfl, g2⟩
        have X2 := Lib.hid (X1.out.gb g2)
        clear g2 a0 a1 a2 a3 a4 a5 a6 a7 a8 a9 a10 hcell
        go_wp2_with fail
        go_roundw
        case rel => exact ⟨k + 1, by go_num, by omega, fun j E hj hE => by
          rcases Nat.lt_or_ge j k with h1 | h1
          · exact HALL.out j E h1 hE
          · obtain rfl : j = k := by omega
            rw [HDD.out] at hE
            cases hE
            exact HS.out, X2.out⟩
        case measure => simp [intOf]; omega
    · have k1 : ¬ (k : Int) < (N.so.length : Int) := by omega
      have HR := Lib.hid (HYES.out (fun i D hD => HALL.out i D (by have := (List.getElem?_eq_some_iff.1 hD).1; omega) hD))
      go_wp2_with fail
      go_ret
      exact ⟨ret_bool HR.out.symm, X1.out.g⟩
end Go.Proofs.Ytplpdjpldadcmaa
end
