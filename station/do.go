package station

import (
	"diaphone/api"
	"diaphone/charge"
)

// maxWait is how many hours one order lets go by at most.
const maxWait = 99

// Do: see P9.1 and P9.2. A station that New did not make is refused like a nil one.
func (s *Station) Do(order string) api.Errno {
	if s == nil {
		return api.ErrArg
	}
	s.lock.Lock()
	defer s.lock.Unlock()
	return reason(s.do(order))
}

func (s *Station) do(text string) error {
	if !s.isMade() {
		return refused{api.ErrArg}
	}
	o, err := parse(text)
	if err != nil {
		return err
	}
	if len(s.orders) >= api.MaxPages {
		return refused{api.ErrLarge}
	}
	if err := s.execute(o); err != nil {
		return err
	}
	s.orders = append(s.orders, text)
	return nil
}

func (s *Station) execute(o order) error {
	switch o.kind {
	case fogOrder:
		return s.fogComes()
	case clearOrder:
		return s.fogGoes()
	case pumpOrder:
		return s.now.air.add(o.number, api.MaxAir)
	case waitOrder:
		return s.wait(o.number)
	case stockOrder:
		return s.now.stock.add(o.number, api.MaxStock)
	case fireOrder:
		return s.fire(o.number)
	}
	return s.set(o.number)
}

func (s *Station) fogComes() error {
	if s.now.fog {
		return refused{api.ErrTwice}
	}
	s.now.fog = true
	return nil
}

func (s *Station) fogGoes() error {
	if !s.now.fog {
		return refused{api.ErrState}
	}
	s.now.fog = false
	return nil
}

// add adds what comes, up to the most that a store may have.
func (s *store) add(n, most int) error {
	if n == 0 {
		return refused{api.ErrArg}
	}
	if s.here+n > most {
		return refused{api.ErrLarge}
	}
	s.here += n
	s.came += n
	return nil
}

func (s *Station) wait(hours int) error {
	if hours < 1 || hours > maxWait {
		return refused{api.ErrArg}
	}
	need := s.need()
	for range hours {
		s.passHour(need)
	}
	return nil
}

func (s *Station) passHour(need int) {
	input := 0
	if s.now.fog {
		input = 1
		s.now.foggy++
	}
	s.now.hour++
	s.now.state = s.box.Next[s.now.state][input]
	if s.box.Out[s.now.state] == 0 {
		return
	}
	if s.now.air.here < need {
		s.now.missed++
		return
	}
	s.now.air.here -= need
	s.now.sounded++
}

func (s *Station) fire(amount int) error {
	if amount == 0 || amount > api.MaxAmount {
		return refused{api.ErrArg}
	}
	cartridges, ok, _ := charge.Fewest(s.weights, amount)
	if !ok {
		return refused{api.ErrRule}
	}
	if cartridges > s.now.stock.here {
		return refused{api.ErrShort}
	}
	s.now.stock.here -= cartridges
	s.now.fired += amount
	s.now.used += cartridges
	return nil
}

func (s *Station) set(state int) error {
	if state >= len(s.box.Out) {
		return refused{api.ErrNone}
	}
	if state == s.now.state {
		return refused{api.ErrTwice}
	}
	s.now.state = state
	return nil
}
