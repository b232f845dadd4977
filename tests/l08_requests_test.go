package tests

import (
	"testing"

	"loop.example/g03316/impl"
)

func request(id, ready, deadline, need int) impl.Request {
	return impl.Request{Id: id, Ready: ready, Deadline: deadline, Need: need}
}

// requestsUpTo returns n requests that are valid, but for their number if it is too great.
func requestsUpTo(n int) []impl.Request {
	list := make([]impl.Request, n)
	for i := range list {
		list[i] = request(7*i%256, 400*i, 400*i+150*i%2001, 1+9*i%100)
	}
	return list
}

// checkRequestsOk checks a list of requests, and that nothing is planned for one that is not valid.
func checkRequestsOk(t *testing.T, list []impl.Request, want bool) {
	t.Helper()
	if got := impl.RequestsOk(list); got != want {
		t.Errorf("RequestsOk(%s) = %v", shown(list), got)
	}
	if want {
		return
	}
	for _, o := range []impl.Orbit{orbit(1, 0, 1), orbit(10, 2, 3), {}} {
		checkPlanned(t, o, list, nil)
		checkPlanOk(t, o, list, nil, false)
		checkFeasible(t, o, list, false)
	}
	for _, a := range []int{-1, 0, 1000000} {
		for _, b := range []int{-1, 0, 50, 1000000, 2000000} {
			checkDemandOf(t, list, a, b, 0)
		}
	}
}

func TestNumbersOfOneRequest(t *testing.T) {
	for _, n := range append(numbersAround(0, 255), 254) {
		checkRequestsOk(t, []impl.Request{request(n, 3, 9, 5)}, within(n, 0, 255))
	}
	for _, n := range numbersAround(1, 100) {
		checkRequestsOk(t, []impl.Request{request(4, 3, 9, n)}, within(n, 1, 100))
		checkRequestsOk(t, []impl.Request{request(4, 9, 9, n)}, within(n, 1, 100))
	}
	for _, n := range numbersAround(0, 1000000) {
		checkRequestsOk(t, []impl.Request{request(4, n, n, 5)}, within(n, 0, 1000000))
		checkRequestsOk(t, []impl.Request{request(4, n, 1000000, 5)}, within(n, 998000, 1000000))
		checkRequestsOk(t, []impl.Request{request(4, n, 5, 5)}, within(n, 0, 5))
	}
}

func TestDeadlinesOfOneRequest(t *testing.T) {
	for _, ready := range []int{0, 1, 2, 500, 1999, 2000, 2001, 500000, 997999, 998000, 998001, 999999, 1000000} {
		deadlines := append(numbersAround(ready, ready+2000), ready+4000, 999999, 1000000, 1000001, 1000002)
		for _, deadline := range append(deadlines, farNumbers...) {
			want := within(deadline, ready, ready+2000) && deadline <= 1000000
			checkRequestsOk(t, []impl.Request{request(0, ready, deadline, 1)}, want)
		}
	}
	for _, ready := range farNumbers {
		for _, deadline := range append([]int{0, 1000000, ready - 1, ready, ready + 1, ready + 2000}, farNumbers...) {
			checkRequestsOk(t, []impl.Request{request(0, ready, deadline, 1)}, false)
		}
	}
}

func TestNumbersOfRequests(t *testing.T) {
	for _, n := range []int{0, 1, 2, 11, 12, 13, 14, 24, 36} {
		checkRequestsOk(t, requestsUpTo(n), n <= 12)
	}
	checkRequestsOk(t, nil, true)
	checkRequestsOk(t, []impl.Request{}, true)
}

// One request of many is not valid, wherever it is.
func TestOneOfManyRequests(t *testing.T) {
	for _, n := range []int{2, 5, 12} {
		for at := range n {
			for _, x := range []impl.Request{
				request(-1, 3, 9, 5), request(256, 3, 9, 5), request(200, -1, 9, 5), request(200, 1000001, 1000001, 5), request(200, 3, 2, 5),
				request(200, 3, 2004, 5), request(200, 999000, 1000001, 5), request(200, 3, 9, 0), request(200, 3, 9, -1), request(200, 3, 9, 101), {},
			} {
				list := requestsUpTo(n)
				list[at] = x
				checkRequestsOk(t, list, false)
			}
			list := requestsUpTo(n)
			list[at] = request(255, 998000, 1000000, 100)
			checkRequestsOk(t, list, true)
		}
	}
}

func TestIdsDiffer(t *testing.T) {
	for _, n := range []int{2, 3, 12} {
		for at := range n {
			for other := range n {
				list := requestsUpTo(n)
				list[at].Id = list[other].Id
				checkRequestsOk(t, list, at == other)
			}
		}
	}
	same := request(9, 3, 9, 5)
	checkRequestsOk(t, []impl.Request{same, same}, false)
	same.Id = 0
	checkRequestsOk(t, []impl.Request{same, request(1, 3, 9, 5), same}, false)
	same.Id = 10
	checkRequestsOk(t, []impl.Request{same, request(9, 3, 9, 5)}, true)
}
